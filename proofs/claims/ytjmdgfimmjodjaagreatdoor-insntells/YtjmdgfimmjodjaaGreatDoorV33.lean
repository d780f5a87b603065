/- The parts of what has its number at the end, through partsOf: contracts. -/
import Derived.Test.YtjmdgfimmjodjaaGreatDoorV32
namespace Go.Proofs.YtjmdgfimmjodjaaGreatDoor
open Go.RowKit Go.Rel

set_option maxRecDepth 8000 in
set_option maxHeartbeats 8000000 in
theorem parts11 (S D N M A I J U F C Y : Int) (G X O L : Bool) (hr : InR ⟨11, S, D, N, M, A, I, J, U, F, C, Y, G, X, O, L⟩) (HN : Num ⟨11, S, D, N, M, A, I, J, U, F, C, Y, G, X, O, L⟩) (w : World) (T : Tab w) : Calls Tryz.prog 26 #[(⟨11, S, D, N, M, A, I, J, U, F, C, Y, G, X, O, L⟩ : Ins).val] w fun e w' => ∃ v, e = .returned v ∧ RowT w.heap.size ([regT D false, numT I]) v w' ∧ Below w.heap.size w w' := by
  have HB := oneT_start ⟨11, S, D, N, M, A, I, J, U, F, C, Y, G, X, O, L⟩ w T
  go_enter Tryz.func26, Tryz.ntmps26
  repeat' (first | with_reducible refine then_exit ?_ | with_reducible refine then_normal ?_ | with_reducible refine inBlock_eq ?_ | with_reducible refine inBlock_ne rfl ?_ | with_reducible refine inBlock_normal ?_ | go_step)
  refine wp_region_rel Grows (fun x => OneT ⟨11, S, D, N, M, A, I, J, U, F, C, Y, G, X, O, L⟩ w x) [.inl (.pointer (some ⟨w.heap.size, 2, none⟩)), .inl (vI D), .inl (⟨11, S, D, N, M, A, I, J, U, F, C, Y, G, X, O, L⟩ : Ins).val, .inl (.bool (spD ⟨11, S, D, N, M, A, I, J, U, F, C, Y, G, X, O, L⟩)), .inl (strV (rdT ⟨11, S, D, N, M, A, I, J, U, F, C, Y, G, X, O, L⟩)), .inl (.pointer (some ⟨w.heap.size, 3, none⟩)), .inl (vI N), .inl (⟨11, S, D, N, M, A, I, J, U, F, C, Y, G, X, O, L⟩ : Ins).val, .inl (.bool (spN ⟨11, S, D, N, M, A, I, J, U, F, C, Y, G, X, O, L⟩)), .inl (strV (rnT ⟨11, S, D, N, M, A, I, J, U, F, C, Y, G, X, O, L⟩)), .inl (.pointer (some ⟨w.heap.size, 4, none⟩)), .inl (vI M), .inl (strV (rmT ⟨11, S, D, N, M, A, I, J, U, F, C, Y, G, X, O, L⟩)), .inl (strV (rdT ⟨11, S, D, N, M, A, I, J, U, F, C, Y, G, X, O, L⟩)), .inl (strV (rnT ⟨11, S, D, N, M, A, I, J, U, F, C, Y, G, X, O, L⟩)), .inl (strV (rmT ⟨11, S, D, N, M, A, I, J, U, F, C, Y, G, X, O, L⟩))] (by kernel_rfl) (by kernel_rfl) (OneT.up _ _) HB.drew (by simp [upK]) ?_
  refine ⟨fun w1 hC _ => by go_simp; exact Below.refl _ _, ?_⟩
  simp only [Act.put, List.setIfInBounds_toArray, List.set_cons_succ, List.set_cons_zero]
  refine ⟨fun w1 hC _ => by have hq := hC.one.at 2 _ rfl; go_simp; exact Below.refl _ _, ?_⟩
  simp only [Act.put, List.setIfInBounds_toArray, List.set_cons_succ, List.set_cons_zero]
  refine ⟨fun w1 hC _ => rel_load_row 23 _ rfl w.heap.size (by go_simp) 23 (⟨11, S, D, N, M, A, I, J, U, F, C, Y, G, X, O, L⟩ : Ins).cells (0, 0) _ hC.one.box Tryz.underlying23 rfl (by kernel_rfl), ?_⟩
  simp only [Act.put, List.setIfInBounds_toArray, List.set_cons_succ, List.set_cons_zero]
  refine ⟨fun w1 hC _ => ?_, ?_⟩
  · go_simp
    refine (stackRd_c ⟨11, S, D, N, M, A, I, J, U, F, C, Y, G, X, O, L⟩ w1).mono ?_
    rintro e w2 ⟨rfl, rfl⟩
    exact ⟨rfl, below_alloc _ _⟩
  simp only [Act.put, List.setIfInBounds_toArray, List.set_cons_succ, List.set_cons_zero]
  refine ⟨fun w1 hC _ => ?_, ?_⟩
  · go_simp
    refine (name_c D (spD ⟨11, S, D, N, M, A, I, J, U, F, C, Y, G, X, O, L⟩) hr.d0 hr.d1 w1 hC.tab).mono ?_
    rintro e w2 ⟨rfl, hb⟩
    exact ⟨rfl, hb⟩
  simp only [Act.put, List.setIfInBounds_toArray, List.set_cons_succ, List.set_cons_zero]
  refine ⟨fun w1 hC _ => by go_simp; exact Below.refl _ _, ?_⟩
  simp only [Act.put, List.setIfInBounds_toArray, List.set_cons_succ, List.set_cons_zero]
  refine ⟨fun w1 hC _ => by have hq := hC.one.at 3 _ rfl; go_simp; exact Below.refl _ _, ?_⟩
  simp only [Act.put, List.setIfInBounds_toArray, List.set_cons_succ, List.set_cons_zero]
  refine ⟨fun w1 hC _ => rel_load_row 23 _ rfl w.heap.size (by go_simp) 23 (⟨11, S, D, N, M, A, I, J, U, F, C, Y, G, X, O, L⟩ : Ins).cells (0, 0) _ hC.one.box Tryz.underlying23 rfl (by kernel_rfl), ?_⟩
  simp only [Act.put, List.setIfInBounds_toArray, List.set_cons_succ, List.set_cons_zero]
  refine ⟨fun w1 hC _ => ?_, ?_⟩
  · go_simp
    refine (stackRn_c ⟨11, S, D, N, M, A, I, J, U, F, C, Y, G, X, O, L⟩ w1).mono ?_
    rintro e w2 ⟨rfl, rfl⟩
    exact ⟨rfl, below_alloc _ _⟩
  simp only [Act.put, List.setIfInBounds_toArray, List.set_cons_succ, List.set_cons_zero]
  refine ⟨fun w1 hC _ => ?_, ?_⟩
  · go_simp
    refine (name_c N (spN ⟨11, S, D, N, M, A, I, J, U, F, C, Y, G, X, O, L⟩) hr.n0 hr.n1 w1 hC.tab).mono ?_
    rintro e w2 ⟨rfl, hb⟩
    exact ⟨rfl, hb⟩
  simp only [Act.put, List.setIfInBounds_toArray, List.set_cons_succ, List.set_cons_zero]
  refine ⟨fun w1 hC _ => by go_simp; exact Below.refl _ _, ?_⟩
  simp only [Act.put, List.setIfInBounds_toArray, List.set_cons_succ, List.set_cons_zero]
  refine ⟨fun w1 hC _ => by have hq := hC.one.at 4 _ rfl; go_simp; exact Below.refl _ _, ?_⟩
  simp only [Act.put, List.setIfInBounds_toArray, List.set_cons_succ, List.set_cons_zero]
  refine ⟨fun w1 hC _ => ?_, ?_⟩
  · go_simp
    refine (name_c M false hr.m0 hr.m1 w1 hC.tab).mono ?_
    rintro e w2 ⟨rfl, hb⟩
    exact ⟨rfl, hb⟩
  simp only [Act.put, List.setIfInBounds_toArray, List.set_cons_succ, List.set_cons_zero]
  refine ⟨fun w1 hC _ => by go_simp; exact Below.refl _ _, ?_⟩
  simp only [Act.put, List.setIfInBounds_toArray, List.set_cons_succ, List.set_cons_zero]
  refine ⟨fun w1 hC _ => by go_simp; exact Below.refl _ _, ?_⟩
  simp only [Act.put, List.setIfInBounds_toArray, List.set_cons_succ, List.set_cons_zero]
  refine ⟨fun w1 hC _ => by go_simp; exact Below.refl _ _, ?_⟩
  simp only [Act.put, List.setIfInBounds_toArray, List.set_cons_succ, List.set_cons_zero]
  clear HB
  intro w1 HB _
  have c0 := HB.one.at 0 _ rfl
  repeat' (first | with_reducible refine then_exit ?_ | with_reducible refine then_normal ?_ | with_reducible refine inBlock_eq ?_ | with_reducible refine inBlock_ne rfl ?_ | with_reducible refine inBlock_normal ?_ | (refine wpList_load_if rfl 23 _ rfl w.heap.size rfl 23 _ (0, 0) _ HB.one.box Tryz.underlying23 rfl (by kernel_rfl) ?_; simp only [Act.put, List.setIfInBounds_toArray, List.set_cons_succ, List.set_cons_zero]) | (go_at_call 61; refine (last11 S D N M A I J U F C Y G X O L HN hr _ HB.tab).mono ?_; rintro e w' ⟨v, rfl, hrow, hb⟩; dsimp only) | go_step)
  go_ret
  exact ⟨_, rfl, own_mono hrow HB.size, below_then HB.one.below hb⟩

set_option maxRecDepth 8000 in
set_option maxHeartbeats 8000000 in
theorem parts12 (S D N M A I J U F C Y : Int) (G X O L : Bool) (hr : InR ⟨12, S, D, N, M, A, I, J, U, F, C, Y, G, X, O, L⟩) (HN : Num ⟨12, S, D, N, M, A, I, J, U, F, C, Y, G, X, O, L⟩) (w : World) (T : Tab w) : Calls Tryz.prog 26 #[(⟨12, S, D, N, M, A, I, J, U, F, C, Y, G, X, O, L⟩ : Ins).val] w fun e w' => ∃ v, e = .returned v ∧ RowT w.heap.size ([numT I]) v w' ∧ Below w.heap.size w w' := by
  have HB := oneT_start ⟨12, S, D, N, M, A, I, J, U, F, C, Y, G, X, O, L⟩ w T
  go_enter Tryz.func26, Tryz.ntmps26
  repeat' (first | with_reducible refine then_exit ?_ | with_reducible refine then_normal ?_ | with_reducible refine inBlock_eq ?_ | with_reducible refine inBlock_ne rfl ?_ | with_reducible refine inBlock_normal ?_ | go_step)
  refine wp_region_rel Grows (fun x => OneT ⟨12, S, D, N, M, A, I, J, U, F, C, Y, G, X, O, L⟩ w x) [.inl (.pointer (some ⟨w.heap.size, 2, none⟩)), .inl (vI D), .inl (⟨12, S, D, N, M, A, I, J, U, F, C, Y, G, X, O, L⟩ : Ins).val, .inl (.bool (spD ⟨12, S, D, N, M, A, I, J, U, F, C, Y, G, X, O, L⟩)), .inl (strV (rdT ⟨12, S, D, N, M, A, I, J, U, F, C, Y, G, X, O, L⟩)), .inl (.pointer (some ⟨w.heap.size, 3, none⟩)), .inl (vI N), .inl (⟨12, S, D, N, M, A, I, J, U, F, C, Y, G, X, O, L⟩ : Ins).val, .inl (.bool (spN ⟨12, S, D, N, M, A, I, J, U, F, C, Y, G, X, O, L⟩)), .inl (strV (rnT ⟨12, S, D, N, M, A, I, J, U, F, C, Y, G, X, O, L⟩)), .inl (.pointer (some ⟨w.heap.size, 4, none⟩)), .inl (vI M), .inl (strV (rmT ⟨12, S, D, N, M, A, I, J, U, F, C, Y, G, X, O, L⟩)), .inl (strV (rdT ⟨12, S, D, N, M, A, I, J, U, F, C, Y, G, X, O, L⟩)), .inl (strV (rnT ⟨12, S, D, N, M, A, I, J, U, F, C, Y, G, X, O, L⟩)), .inl (strV (rmT ⟨12, S, D, N, M, A, I, J, U, F, C, Y, G, X, O, L⟩))] (by kernel_rfl) (by kernel_rfl) (OneT.up _ _) HB.drew (by simp [upK]) ?_
  refine ⟨fun w1 hC _ => by go_simp; exact Below.refl _ _, ?_⟩
  simp only [Act.put, List.setIfInBounds_toArray, List.set_cons_succ, List.set_cons_zero]
  refine ⟨fun w1 hC _ => by have hq := hC.one.at 2 _ rfl; go_simp; exact Below.refl _ _, ?_⟩
  simp only [Act.put, List.setIfInBounds_toArray, List.set_cons_succ, List.set_cons_zero]
  refine ⟨fun w1 hC _ => rel_load_row 23 _ rfl w.heap.size (by go_simp) 23 (⟨12, S, D, N, M, A, I, J, U, F, C, Y, G, X, O, L⟩ : Ins).cells (0, 0) _ hC.one.box Tryz.underlying23 rfl (by kernel_rfl), ?_⟩
  simp only [Act.put, List.setIfInBounds_toArray, List.set_cons_succ, List.set_cons_zero]
  refine ⟨fun w1 hC _ => ?_, ?_⟩
  · go_simp
    refine (stackRd_c ⟨12, S, D, N, M, A, I, J, U, F, C, Y, G, X, O, L⟩ w1).mono ?_
    rintro e w2 ⟨rfl, rfl⟩
    exact ⟨rfl, below_alloc _ _⟩
  simp only [Act.put, List.setIfInBounds_toArray, List.set_cons_succ, List.set_cons_zero]
  refine ⟨fun w1 hC _ => ?_, ?_⟩
  · go_simp
    refine (name_c D (spD ⟨12, S, D, N, M, A, I, J, U, F, C, Y, G, X, O, L⟩) hr.d0 hr.d1 w1 hC.tab).mono ?_
    rintro e w2 ⟨rfl, hb⟩
    exact ⟨rfl, hb⟩
  simp only [Act.put, List.setIfInBounds_toArray, List.set_cons_succ, List.set_cons_zero]
  refine ⟨fun w1 hC _ => by go_simp; exact Below.refl _ _, ?_⟩
  simp only [Act.put, List.setIfInBounds_toArray, List.set_cons_succ, List.set_cons_zero]
  refine ⟨fun w1 hC _ => by have hq := hC.one.at 3 _ rfl; go_simp; exact Below.refl _ _, ?_⟩
  simp only [Act.put, List.setIfInBounds_toArray, List.set_cons_succ, List.set_cons_zero]
  refine ⟨fun w1 hC _ => rel_load_row 23 _ rfl w.heap.size (by go_simp) 23 (⟨12, S, D, N, M, A, I, J, U, F, C, Y, G, X, O, L⟩ : Ins).cells (0, 0) _ hC.one.box Tryz.underlying23 rfl (by kernel_rfl), ?_⟩
  simp only [Act.put, List.setIfInBounds_toArray, List.set_cons_succ, List.set_cons_zero]
  refine ⟨fun w1 hC _ => ?_, ?_⟩
  · go_simp
    refine (stackRn_c ⟨12, S, D, N, M, A, I, J, U, F, C, Y, G, X, O, L⟩ w1).mono ?_
    rintro e w2 ⟨rfl, rfl⟩
    exact ⟨rfl, below_alloc _ _⟩
  simp only [Act.put, List.setIfInBounds_toArray, List.set_cons_succ, List.set_cons_zero]
  refine ⟨fun w1 hC _ => ?_, ?_⟩
  · go_simp
    refine (name_c N (spN ⟨12, S, D, N, M, A, I, J, U, F, C, Y, G, X, O, L⟩) hr.n0 hr.n1 w1 hC.tab).mono ?_
    rintro e w2 ⟨rfl, hb⟩
    exact ⟨rfl, hb⟩
  simp only [Act.put, List.setIfInBounds_toArray, List.set_cons_succ, List.set_cons_zero]
  refine ⟨fun w1 hC _ => by go_simp; exact Below.refl _ _, ?_⟩
  simp only [Act.put, List.setIfInBounds_toArray, List.set_cons_succ, List.set_cons_zero]
  refine ⟨fun w1 hC _ => by have hq := hC.one.at 4 _ rfl; go_simp; exact Below.refl _ _, ?_⟩
  simp only [Act.put, List.setIfInBounds_toArray, List.set_cons_succ, List.set_cons_zero]
  refine ⟨fun w1 hC _ => ?_, ?_⟩
  · go_simp
    refine (name_c M false hr.m0 hr.m1 w1 hC.tab).mono ?_
    rintro e w2 ⟨rfl, hb⟩
    exact ⟨rfl, hb⟩
  simp only [Act.put, List.setIfInBounds_toArray, List.set_cons_succ, List.set_cons_zero]
  refine ⟨fun w1 hC _ => by go_simp; exact Below.refl _ _, ?_⟩
  simp only [Act.put, List.setIfInBounds_toArray, List.set_cons_succ, List.set_cons_zero]
  refine ⟨fun w1 hC _ => by go_simp; exact Below.refl _ _, ?_⟩
  simp only [Act.put, List.setIfInBounds_toArray, List.set_cons_succ, List.set_cons_zero]
  refine ⟨fun w1 hC _ => by go_simp; exact Below.refl _ _, ?_⟩
  simp only [Act.put, List.setIfInBounds_toArray, List.set_cons_succ, List.set_cons_zero]
  clear HB
  intro w1 HB _
  have c0 := HB.one.at 0 _ rfl
  repeat' (first | with_reducible refine then_exit ?_ | with_reducible refine then_normal ?_ | with_reducible refine inBlock_eq ?_ | with_reducible refine inBlock_ne rfl ?_ | with_reducible refine inBlock_normal ?_ | (refine wpList_load_if rfl 23 _ rfl w.heap.size rfl 23 _ (0, 0) _ HB.one.box Tryz.underlying23 rfl (by kernel_rfl) ?_; simp only [Act.put, List.setIfInBounds_toArray, List.set_cons_succ, List.set_cons_zero]) | (go_at_call 61; refine (last12 S D N M A I J U F C Y G X O L HN _ HB.tab).mono ?_; rintro e w' ⟨v, rfl, hrow, hb⟩; dsimp only) | go_step)
  go_ret
  exact ⟨_, rfl, own_mono hrow HB.size, below_then HB.one.below hb⟩

set_option maxRecDepth 8000 in
set_option maxHeartbeats 8000000 in
theorem parts13 (S D N M A I J U F C Y : Int) (G X O L : Bool) (hr : InR ⟨13, S, D, N, M, A, I, J, U, F, C, Y, G, X, O, L⟩) (HN : Num ⟨13, S, D, N, M, A, I, J, U, F, C, Y, G, X, O, L⟩) (w : World) (T : Tab w) : Calls Tryz.prog 26 #[(⟨13, S, D, N, M, A, I, J, U, F, C, Y, G, X, O, L⟩ : Ins).val] w fun e w' => ∃ v, e = .returned v ∧ RowT w.heap.size ([numT I]) v w' ∧ Below w.heap.size w w' := by
  have HB := oneT_start ⟨13, S, D, N, M, A, I, J, U, F, C, Y, G, X, O, L⟩ w T
  go_enter Tryz.func26, Tryz.ntmps26
  repeat' (first | with_reducible refine then_exit ?_ | with_reducible refine then_normal ?_ | with_reducible refine inBlock_eq ?_ | with_reducible refine inBlock_ne rfl ?_ | with_reducible refine inBlock_normal ?_ | go_step)
  refine wp_region_rel Grows (fun x => OneT ⟨13, S, D, N, M, A, I, J, U, F, C, Y, G, X, O, L⟩ w x) [.inl (.pointer (some ⟨w.heap.size, 2, none⟩)), .inl (vI D), .inl (⟨13, S, D, N, M, A, I, J, U, F, C, Y, G, X, O, L⟩ : Ins).val, .inl (.bool (spD ⟨13, S, D, N, M, A, I, J, U, F, C, Y, G, X, O, L⟩)), .inl (strV (rdT ⟨13, S, D, N, M, A, I, J, U, F, C, Y, G, X, O, L⟩)), .inl (.pointer (some ⟨w.heap.size, 3, none⟩)), .inl (vI N), .inl (⟨13, S, D, N, M, A, I, J, U, F, C, Y, G, X, O, L⟩ : Ins).val, .inl (.bool (spN ⟨13, S, D, N, M, A, I, J, U, F, C, Y, G, X, O, L⟩)), .inl (strV (rnT ⟨13, S, D, N, M, A, I, J, U, F, C, Y, G, X, O, L⟩)), .inl (.pointer (some ⟨w.heap.size, 4, none⟩)), .inl (vI M), .inl (strV (rmT ⟨13, S, D, N, M, A, I, J, U, F, C, Y, G, X, O, L⟩)), .inl (strV (rdT ⟨13, S, D, N, M, A, I, J, U, F, C, Y, G, X, O, L⟩)), .inl (strV (rnT ⟨13, S, D, N, M, A, I, J, U, F, C, Y, G, X, O, L⟩)), .inl (strV (rmT ⟨13, S, D, N, M, A, I, J, U, F, C, Y, G, X, O, L⟩))] (by kernel_rfl) (by kernel_rfl) (OneT.up _ _) HB.drew (by simp [upK]) ?_
  refine ⟨fun w1 hC _ => by go_simp; exact Below.refl _ _, ?_⟩
  simp only [Act.put, List.setIfInBounds_toArray, List.set_cons_succ, List.set_cons_zero]
  refine ⟨fun w1 hC _ => by have hq := hC.one.at 2 _ rfl; go_simp; exact Below.refl _ _, ?_⟩
  simp only [Act.put, List.setIfInBounds_toArray, List.set_cons_succ, List.set_cons_zero]
  refine ⟨fun w1 hC _ => rel_load_row 23 _ rfl w.heap.size (by go_simp) 23 (⟨13, S, D, N, M, A, I, J, U, F, C, Y, G, X, O, L⟩ : Ins).cells (0, 0) _ hC.one.box Tryz.underlying23 rfl (by kernel_rfl), ?_⟩
  simp only [Act.put, List.setIfInBounds_toArray, List.set_cons_succ, List.set_cons_zero]
  refine ⟨fun w1 hC _ => ?_, ?_⟩
  · go_simp
    refine (stackRd_c ⟨13, S, D, N, M, A, I, J, U, F, C, Y, G, X, O, L⟩ w1).mono ?_
    rintro e w2 ⟨rfl, rfl⟩
    exact ⟨rfl, below_alloc _ _⟩
  simp only [Act.put, List.setIfInBounds_toArray, List.set_cons_succ, List.set_cons_zero]
  refine ⟨fun w1 hC _ => ?_, ?_⟩
  · go_simp
    refine (name_c D (spD ⟨13, S, D, N, M, A, I, J, U, F, C, Y, G, X, O, L⟩) hr.d0 hr.d1 w1 hC.tab).mono ?_
    rintro e w2 ⟨rfl, hb⟩
    exact ⟨rfl, hb⟩
  simp only [Act.put, List.setIfInBounds_toArray, List.set_cons_succ, List.set_cons_zero]
  refine ⟨fun w1 hC _ => by go_simp; exact Below.refl _ _, ?_⟩
  simp only [Act.put, List.setIfInBounds_toArray, List.set_cons_succ, List.set_cons_zero]
  refine ⟨fun w1 hC _ => by have hq := hC.one.at 3 _ rfl; go_simp; exact Below.refl _ _, ?_⟩
  simp only [Act.put, List.setIfInBounds_toArray, List.set_cons_succ, List.set_cons_zero]
  refine ⟨fun w1 hC _ => rel_load_row 23 _ rfl w.heap.size (by go_simp) 23 (⟨13, S, D, N, M, A, I, J, U, F, C, Y, G, X, O, L⟩ : Ins).cells (0, 0) _ hC.one.box Tryz.underlying23 rfl (by kernel_rfl), ?_⟩
  simp only [Act.put, List.setIfInBounds_toArray, List.set_cons_succ, List.set_cons_zero]
  refine ⟨fun w1 hC _ => ?_, ?_⟩
  · go_simp
    refine (stackRn_c ⟨13, S, D, N, M, A, I, J, U, F, C, Y, G, X, O, L⟩ w1).mono ?_
    rintro e w2 ⟨rfl, rfl⟩
    exact ⟨rfl, below_alloc _ _⟩
  simp only [Act.put, List.setIfInBounds_toArray, List.set_cons_succ, List.set_cons_zero]
  refine ⟨fun w1 hC _ => ?_, ?_⟩
  · go_simp
    refine (name_c N (spN ⟨13, S, D, N, M, A, I, J, U, F, C, Y, G, X, O, L⟩) hr.n0 hr.n1 w1 hC.tab).mono ?_
    rintro e w2 ⟨rfl, hb⟩
    exact ⟨rfl, hb⟩
  simp only [Act.put, List.setIfInBounds_toArray, List.set_cons_succ, List.set_cons_zero]
  refine ⟨fun w1 hC _ => by go_simp; exact Below.refl _ _, ?_⟩
  simp only [Act.put, List.setIfInBounds_toArray, List.set_cons_succ, List.set_cons_zero]
  refine ⟨fun w1 hC _ => by have hq := hC.one.at 4 _ rfl; go_simp; exact Below.refl _ _, ?_⟩
  simp only [Act.put, List.setIfInBounds_toArray, List.set_cons_succ, List.set_cons_zero]
  refine ⟨fun w1 hC _ => ?_, ?_⟩
  · go_simp
    refine (name_c M false hr.m0 hr.m1 w1 hC.tab).mono ?_
    rintro e w2 ⟨rfl, hb⟩
    exact ⟨rfl, hb⟩
  simp only [Act.put, List.setIfInBounds_toArray, List.set_cons_succ, List.set_cons_zero]
  refine ⟨fun w1 hC _ => by go_simp; exact Below.refl _ _, ?_⟩
  simp only [Act.put, List.setIfInBounds_toArray, List.set_cons_succ, List.set_cons_zero]
  refine ⟨fun w1 hC _ => by go_simp; exact Below.refl _ _, ?_⟩
  simp only [Act.put, List.setIfInBounds_toArray, List.set_cons_succ, List.set_cons_zero]
  refine ⟨fun w1 hC _ => by go_simp; exact Below.refl _ _, ?_⟩
  simp only [Act.put, List.setIfInBounds_toArray, List.set_cons_succ, List.set_cons_zero]
  clear HB
  intro w1 HB _
  have c0 := HB.one.at 0 _ rfl
  repeat' (first | with_reducible refine then_exit ?_ | with_reducible refine then_normal ?_ | with_reducible refine inBlock_eq ?_ | with_reducible refine inBlock_ne rfl ?_ | with_reducible refine inBlock_normal ?_ | (refine wpList_load_if rfl 23 _ rfl w.heap.size rfl 23 _ (0, 0) _ HB.one.box Tryz.underlying23 rfl (by kernel_rfl) ?_; simp only [Act.put, List.setIfInBounds_toArray, List.set_cons_succ, List.set_cons_zero]) | (go_at_call 61; refine (last13 S D N M A I J U F C Y G X O L HN _ HB.tab).mono ?_; rintro e w' ⟨v, rfl, hrow, hb⟩; dsimp only) | go_step)
  go_ret
  exact ⟨_, rfl, own_mono hrow HB.size, below_then HB.one.below hb⟩

set_option maxRecDepth 8000 in
set_option maxHeartbeats 8000000 in
theorem parts14 (S D N M A I J U F C Y : Int) (G X O L : Bool) (hr : InR ⟨14, S, D, N, M, A, I, J, U, F, C, Y, G, X, O, L⟩) (HN : Num ⟨14, S, D, N, M, A, I, J, U, F, C, Y, G, X, O, L⟩) (w : World) (T : Tab w) : Calls Tryz.prog 26 #[(⟨14, S, D, N, M, A, I, J, U, F, C, Y, G, X, O, L⟩ : Ins).val] w fun e w' => ∃ v, e = .returned v ∧ RowT w.heap.size ([regT D false, numT I]) v w' ∧ Below w.heap.size w w' := by
  have HB := oneT_start ⟨14, S, D, N, M, A, I, J, U, F, C, Y, G, X, O, L⟩ w T
  go_enter Tryz.func26, Tryz.ntmps26
  repeat' (first | with_reducible refine then_exit ?_ | with_reducible refine then_normal ?_ | with_reducible refine inBlock_eq ?_ | with_reducible refine inBlock_ne rfl ?_ | with_reducible refine inBlock_normal ?_ | go_step)
  refine wp_region_rel Grows (fun x => OneT ⟨14, S, D, N, M, A, I, J, U, F, C, Y, G, X, O, L⟩ w x) [.inl (.pointer (some ⟨w.heap.size, 2, none⟩)), .inl (vI D), .inl (⟨14, S, D, N, M, A, I, J, U, F, C, Y, G, X, O, L⟩ : Ins).val, .inl (.bool (spD ⟨14, S, D, N, M, A, I, J, U, F, C, Y, G, X, O, L⟩)), .inl (strV (rdT ⟨14, S, D, N, M, A, I, J, U, F, C, Y, G, X, O, L⟩)), .inl (.pointer (some ⟨w.heap.size, 3, none⟩)), .inl (vI N), .inl (⟨14, S, D, N, M, A, I, J, U, F, C, Y, G, X, O, L⟩ : Ins).val, .inl (.bool (spN ⟨14, S, D, N, M, A, I, J, U, F, C, Y, G, X, O, L⟩)), .inl (strV (rnT ⟨14, S, D, N, M, A, I, J, U, F, C, Y, G, X, O, L⟩)), .inl (.pointer (some ⟨w.heap.size, 4, none⟩)), .inl (vI M), .inl (strV (rmT ⟨14, S, D, N, M, A, I, J, U, F, C, Y, G, X, O, L⟩)), .inl (strV (rdT ⟨14, S, D, N, M, A, I, J, U, F, C, Y, G, X, O, L⟩)), .inl (strV (rnT ⟨14, S, D, N, M, A, I, J, U, F, C, Y, G, X, O, L⟩)), .inl (strV (rmT ⟨14, S, D, N, M, A, I, J, U, F, C, Y, G, X, O, L⟩))] (by kernel_rfl) (by kernel_rfl) (OneT.up _ _) HB.drew (by simp [upK]) ?_
  refine ⟨fun w1 hC _ => by go_simp; exact Below.refl _ _, ?_⟩
  simp only [Act.put, List.setIfInBounds_toArray, List.set_cons_succ, List.set_cons_zero]
  refine ⟨fun w1 hC _ => by have hq := hC.one.at 2 _ rfl; go_simp; exact Below.refl _ _, ?_⟩
  simp only [Act.put, List.setIfInBounds_toArray, List.set_cons_succ, List.set_cons_zero]
  refine ⟨fun w1 hC _ => rel_load_row 23 _ rfl w.heap.size (by go_simp) 23 (⟨14, S, D, N, M, A, I, J, U, F, C, Y, G, X, O, L⟩ : Ins).cells (0, 0) _ hC.one.box Tryz.underlying23 rfl (by kernel_rfl), ?_⟩
  simp only [Act.put, List.setIfInBounds_toArray, List.set_cons_succ, List.set_cons_zero]
  refine ⟨fun w1 hC _ => ?_, ?_⟩
  · go_simp
    refine (stackRd_c ⟨14, S, D, N, M, A, I, J, U, F, C, Y, G, X, O, L⟩ w1).mono ?_
    rintro e w2 ⟨rfl, rfl⟩
    exact ⟨rfl, below_alloc _ _⟩
  simp only [Act.put, List.setIfInBounds_toArray, List.set_cons_succ, List.set_cons_zero]
  refine ⟨fun w1 hC _ => ?_, ?_⟩
  · go_simp
    refine (name_c D (spD ⟨14, S, D, N, M, A, I, J, U, F, C, Y, G, X, O, L⟩) hr.d0 hr.d1 w1 hC.tab).mono ?_
    rintro e w2 ⟨rfl, hb⟩
    exact ⟨rfl, hb⟩
  simp only [Act.put, List.setIfInBounds_toArray, List.set_cons_succ, List.set_cons_zero]
  refine ⟨fun w1 hC _ => by go_simp; exact Below.refl _ _, ?_⟩
  simp only [Act.put, List.setIfInBounds_toArray, List.set_cons_succ, List.set_cons_zero]
  refine ⟨fun w1 hC _ => by have hq := hC.one.at 3 _ rfl; go_simp; exact Below.refl _ _, ?_⟩
  simp only [Act.put, List.setIfInBounds_toArray, List.set_cons_succ, List.set_cons_zero]
  refine ⟨fun w1 hC _ => rel_load_row 23 _ rfl w.heap.size (by go_simp) 23 (⟨14, S, D, N, M, A, I, J, U, F, C, Y, G, X, O, L⟩ : Ins).cells (0, 0) _ hC.one.box Tryz.underlying23 rfl (by kernel_rfl), ?_⟩
  simp only [Act.put, List.setIfInBounds_toArray, List.set_cons_succ, List.set_cons_zero]
  refine ⟨fun w1 hC _ => ?_, ?_⟩
  · go_simp
    refine (stackRn_c ⟨14, S, D, N, M, A, I, J, U, F, C, Y, G, X, O, L⟩ w1).mono ?_
    rintro e w2 ⟨rfl, rfl⟩
    exact ⟨rfl, below_alloc _ _⟩
  simp only [Act.put, List.setIfInBounds_toArray, List.set_cons_succ, List.set_cons_zero]
  refine ⟨fun w1 hC _ => ?_, ?_⟩
  · go_simp
    refine (name_c N (spN ⟨14, S, D, N, M, A, I, J, U, F, C, Y, G, X, O, L⟩) hr.n0 hr.n1 w1 hC.tab).mono ?_
    rintro e w2 ⟨rfl, hb⟩
    exact ⟨rfl, hb⟩
  simp only [Act.put, List.setIfInBounds_toArray, List.set_cons_succ, List.set_cons_zero]
  refine ⟨fun w1 hC _ => by go_simp; exact Below.refl _ _, ?_⟩
  simp only [Act.put, List.setIfInBounds_toArray, List.set_cons_succ, List.set_cons_zero]
  refine ⟨fun w1 hC _ => by have hq := hC.one.at 4 _ rfl; go_simp; exact Below.refl _ _, ?_⟩
  simp only [Act.put, List.setIfInBounds_toArray, List.set_cons_succ, List.set_cons_zero]
  refine ⟨fun w1 hC _ => ?_, ?_⟩
  · go_simp
    refine (name_c M false hr.m0 hr.m1 w1 hC.tab).mono ?_
    rintro e w2 ⟨rfl, hb⟩
    exact ⟨rfl, hb⟩
  simp only [Act.put, List.setIfInBounds_toArray, List.set_cons_succ, List.set_cons_zero]
  refine ⟨fun w1 hC _ => by go_simp; exact Below.refl _ _, ?_⟩
  simp only [Act.put, List.setIfInBounds_toArray, List.set_cons_succ, List.set_cons_zero]
  refine ⟨fun w1 hC _ => by go_simp; exact Below.refl _ _, ?_⟩
  simp only [Act.put, List.setIfInBounds_toArray, List.set_cons_succ, List.set_cons_zero]
  refine ⟨fun w1 hC _ => by go_simp; exact Below.refl _ _, ?_⟩
  simp only [Act.put, List.setIfInBounds_toArray, List.set_cons_succ, List.set_cons_zero]
  clear HB
  intro w1 HB _
  have c0 := HB.one.at 0 _ rfl
  repeat' (first | with_reducible refine then_exit ?_ | with_reducible refine then_normal ?_ | with_reducible refine inBlock_eq ?_ | with_reducible refine inBlock_ne rfl ?_ | with_reducible refine inBlock_normal ?_ | (refine wpList_load_if rfl 23 _ rfl w.heap.size rfl 23 _ (0, 0) _ HB.one.box Tryz.underlying23 rfl (by kernel_rfl) ?_; simp only [Act.put, List.setIfInBounds_toArray, List.set_cons_succ, List.set_cons_zero]) | (go_at_call 61; refine (last14 S D N M A I J U F C Y G X O L HN hr _ HB.tab).mono ?_; rintro e w' ⟨v, rfl, hrow, hb⟩; dsimp only) | go_step)
  go_ret
  exact ⟨_, rfl, own_mono hrow HB.size, below_then HB.one.below hb⟩

set_option maxRecDepth 8000 in
set_option maxHeartbeats 8000000 in
theorem parts15 (S D N M A I J U F C Y : Int) (G X O L : Bool) (hr : InR ⟨15, S, D, N, M, A, I, J, U, F, C, Y, G, X, O, L⟩) (HN : Num ⟨15, S, D, N, M, A, I, J, U, F, C, Y, G, X, O, L⟩) (w : World) (T : Tab w) : Calls Tryz.prog 26 #[(⟨15, S, D, N, M, A, I, J, U, F, C, Y, G, X, O, L⟩ : Ins).val] w fun e w' => ∃ v, e = .returned v ∧ RowT w.heap.size ([regT D false, numT U, numT I]) v w' ∧ Below w.heap.size w w' := by
  have HB := oneT_start ⟨15, S, D, N, M, A, I, J, U, F, C, Y, G, X, O, L⟩ w T
  go_enter Tryz.func26, Tryz.ntmps26
  repeat' (first | with_reducible refine then_exit ?_ | with_reducible refine then_normal ?_ | with_reducible refine inBlock_eq ?_ | with_reducible refine inBlock_ne rfl ?_ | with_reducible refine inBlock_normal ?_ | go_step)
  refine wp_region_rel Grows (fun x => OneT ⟨15, S, D, N, M, A, I, J, U, F, C, Y, G, X, O, L⟩ w x) [.inl (.pointer (some ⟨w.heap.size, 2, none⟩)), .inl (vI D), .inl (⟨15, S, D, N, M, A, I, J, U, F, C, Y, G, X, O, L⟩ : Ins).val, .inl (.bool (spD ⟨15, S, D, N, M, A, I, J, U, F, C, Y, G, X, O, L⟩)), .inl (strV (rdT ⟨15, S, D, N, M, A, I, J, U, F, C, Y, G, X, O, L⟩)), .inl (.pointer (some ⟨w.heap.size, 3, none⟩)), .inl (vI N), .inl (⟨15, S, D, N, M, A, I, J, U, F, C, Y, G, X, O, L⟩ : Ins).val, .inl (.bool (spN ⟨15, S, D, N, M, A, I, J, U, F, C, Y, G, X, O, L⟩)), .inl (strV (rnT ⟨15, S, D, N, M, A, I, J, U, F, C, Y, G, X, O, L⟩)), .inl (.pointer (some ⟨w.heap.size, 4, none⟩)), .inl (vI M), .inl (strV (rmT ⟨15, S, D, N, M, A, I, J, U, F, C, Y, G, X, O, L⟩)), .inl (strV (rdT ⟨15, S, D, N, M, A, I, J, U, F, C, Y, G, X, O, L⟩)), .inl (strV (rnT ⟨15, S, D, N, M, A, I, J, U, F, C, Y, G, X, O, L⟩)), .inl (strV (rmT ⟨15, S, D, N, M, A, I, J, U, F, C, Y, G, X, O, L⟩))] (by kernel_rfl) (by kernel_rfl) (OneT.up _ _) HB.drew (by simp [upK]) ?_
  refine ⟨fun w1 hC _ => by go_simp; exact Below.refl _ _, ?_⟩
  simp only [Act.put, List.setIfInBounds_toArray, List.set_cons_succ, List.set_cons_zero]
  refine ⟨fun w1 hC _ => by have hq := hC.one.at 2 _ rfl; go_simp; exact Below.refl _ _, ?_⟩
  simp only [Act.put, List.setIfInBounds_toArray, List.set_cons_succ, List.set_cons_zero]
  refine ⟨fun w1 hC _ => rel_load_row 23 _ rfl w.heap.size (by go_simp) 23 (⟨15, S, D, N, M, A, I, J, U, F, C, Y, G, X, O, L⟩ : Ins).cells (0, 0) _ hC.one.box Tryz.underlying23 rfl (by kernel_rfl), ?_⟩
  simp only [Act.put, List.setIfInBounds_toArray, List.set_cons_succ, List.set_cons_zero]
  refine ⟨fun w1 hC _ => ?_, ?_⟩
  · go_simp
    refine (stackRd_c ⟨15, S, D, N, M, A, I, J, U, F, C, Y, G, X, O, L⟩ w1).mono ?_
    rintro e w2 ⟨rfl, rfl⟩
    exact ⟨rfl, below_alloc _ _⟩
  simp only [Act.put, List.setIfInBounds_toArray, List.set_cons_succ, List.set_cons_zero]
  refine ⟨fun w1 hC _ => ?_, ?_⟩
  · go_simp
    refine (name_c D (spD ⟨15, S, D, N, M, A, I, J, U, F, C, Y, G, X, O, L⟩) hr.d0 hr.d1 w1 hC.tab).mono ?_
    rintro e w2 ⟨rfl, hb⟩
    exact ⟨rfl, hb⟩
  simp only [Act.put, List.setIfInBounds_toArray, List.set_cons_succ, List.set_cons_zero]
  refine ⟨fun w1 hC _ => by go_simp; exact Below.refl _ _, ?_⟩
  simp only [Act.put, List.setIfInBounds_toArray, List.set_cons_succ, List.set_cons_zero]
  refine ⟨fun w1 hC _ => by have hq := hC.one.at 3 _ rfl; go_simp; exact Below.refl _ _, ?_⟩
  simp only [Act.put, List.setIfInBounds_toArray, List.set_cons_succ, List.set_cons_zero]
  refine ⟨fun w1 hC _ => rel_load_row 23 _ rfl w.heap.size (by go_simp) 23 (⟨15, S, D, N, M, A, I, J, U, F, C, Y, G, X, O, L⟩ : Ins).cells (0, 0) _ hC.one.box Tryz.underlying23 rfl (by kernel_rfl), ?_⟩
  simp only [Act.put, List.setIfInBounds_toArray, List.set_cons_succ, List.set_cons_zero]
  refine ⟨fun w1 hC _ => ?_, ?_⟩
  · go_simp
    refine (stackRn_c ⟨15, S, D, N, M, A, I, J, U, F, C, Y, G, X, O, L⟩ w1).mono ?_
    rintro e w2 ⟨rfl, rfl⟩
    exact ⟨rfl, below_alloc _ _⟩
  simp only [Act.put, List.setIfInBounds_toArray, List.set_cons_succ, List.set_cons_zero]
  refine ⟨fun w1 hC _ => ?_, ?_⟩
  · go_simp
    refine (name_c N (spN ⟨15, S, D, N, M, A, I, J, U, F, C, Y, G, X, O, L⟩) hr.n0 hr.n1 w1 hC.tab).mono ?_
    rintro e w2 ⟨rfl, hb⟩
    exact ⟨rfl, hb⟩
  simp only [Act.put, List.setIfInBounds_toArray, List.set_cons_succ, List.set_cons_zero]
  refine ⟨fun w1 hC _ => by go_simp; exact Below.refl _ _, ?_⟩
  simp only [Act.put, List.setIfInBounds_toArray, List.set_cons_succ, List.set_cons_zero]
  refine ⟨fun w1 hC _ => by have hq := hC.one.at 4 _ rfl; go_simp; exact Below.refl _ _, ?_⟩
  simp only [Act.put, List.setIfInBounds_toArray, List.set_cons_succ, List.set_cons_zero]
  refine ⟨fun w1 hC _ => ?_, ?_⟩
  · go_simp
    refine (name_c M false hr.m0 hr.m1 w1 hC.tab).mono ?_
    rintro e w2 ⟨rfl, hb⟩
    exact ⟨rfl, hb⟩
  simp only [Act.put, List.setIfInBounds_toArray, List.set_cons_succ, List.set_cons_zero]
  refine ⟨fun w1 hC _ => by go_simp; exact Below.refl _ _, ?_⟩
  simp only [Act.put, List.setIfInBounds_toArray, List.set_cons_succ, List.set_cons_zero]
  refine ⟨fun w1 hC _ => by go_simp; exact Below.refl _ _, ?_⟩
  simp only [Act.put, List.setIfInBounds_toArray, List.set_cons_succ, List.set_cons_zero]
  refine ⟨fun w1 hC _ => by go_simp; exact Below.refl _ _, ?_⟩
  simp only [Act.put, List.setIfInBounds_toArray, List.set_cons_succ, List.set_cons_zero]
  clear HB
  intro w1 HB _
  have c0 := HB.one.at 0 _ rfl
  repeat' (first | with_reducible refine then_exit ?_ | with_reducible refine then_normal ?_ | with_reducible refine inBlock_eq ?_ | with_reducible refine inBlock_ne rfl ?_ | with_reducible refine inBlock_normal ?_ | (refine wpList_load_if rfl 23 _ rfl w.heap.size rfl 23 _ (0, 0) _ HB.one.box Tryz.underlying23 rfl (by kernel_rfl) ?_; simp only [Act.put, List.setIfInBounds_toArray, List.set_cons_succ, List.set_cons_zero]) | (go_at_call 61; refine (last15 S D N M A I J U F C Y G X O L HN hr _ HB.tab).mono ?_; rintro e w' ⟨v, rfl, hrow, hb⟩; dsimp only) | go_step)
  go_ret
  exact ⟨_, rfl, own_mono hrow HB.size, below_then HB.one.below hb⟩

set_option maxRecDepth 8000 in
set_option maxHeartbeats 8000000 in
theorem parts25 (S D N M A I J U F C Y : Int) (G X O L : Bool) (hr : InR ⟨25, S, D, N, M, A, I, J, U, F, C, Y, G, X, O, L⟩) (w : World) (T : Tab w) : Calls Tryz.prog 26 #[(⟨25, S, D, N, M, A, I, J, U, F, C, Y, G, X, O, L⟩ : Ins).val] w fun e w' => ∃ v, e = .returned v ∧ RowT w.heap.size (([] : List Tx)) v w' ∧ Below w.heap.size w w' := by
  have HB := oneT_start ⟨25, S, D, N, M, A, I, J, U, F, C, Y, G, X, O, L⟩ w T
  go_enter Tryz.func26, Tryz.ntmps26
  repeat' (first | with_reducible refine then_exit ?_ | with_reducible refine then_normal ?_ | with_reducible refine inBlock_eq ?_ | with_reducible refine inBlock_ne rfl ?_ | with_reducible refine inBlock_normal ?_ | go_step)
  refine wp_region_rel Grows (fun x => OneT ⟨25, S, D, N, M, A, I, J, U, F, C, Y, G, X, O, L⟩ w x) [.inl (.pointer (some ⟨w.heap.size, 2, none⟩)), .inl (vI D), .inl (⟨25, S, D, N, M, A, I, J, U, F, C, Y, G, X, O, L⟩ : Ins).val, .inl (.bool (spD ⟨25, S, D, N, M, A, I, J, U, F, C, Y, G, X, O, L⟩)), .inl (strV (rdT ⟨25, S, D, N, M, A, I, J, U, F, C, Y, G, X, O, L⟩)), .inl (.pointer (some ⟨w.heap.size, 3, none⟩)), .inl (vI N), .inl (⟨25, S, D, N, M, A, I, J, U, F, C, Y, G, X, O, L⟩ : Ins).val, .inl (.bool (spN ⟨25, S, D, N, M, A, I, J, U, F, C, Y, G, X, O, L⟩)), .inl (strV (rnT ⟨25, S, D, N, M, A, I, J, U, F, C, Y, G, X, O, L⟩)), .inl (.pointer (some ⟨w.heap.size, 4, none⟩)), .inl (vI M), .inl (strV (rmT ⟨25, S, D, N, M, A, I, J, U, F, C, Y, G, X, O, L⟩)), .inl (strV (rdT ⟨25, S, D, N, M, A, I, J, U, F, C, Y, G, X, O, L⟩)), .inl (strV (rnT ⟨25, S, D, N, M, A, I, J, U, F, C, Y, G, X, O, L⟩)), .inl (strV (rmT ⟨25, S, D, N, M, A, I, J, U, F, C, Y, G, X, O, L⟩))] (by kernel_rfl) (by kernel_rfl) (OneT.up _ _) HB.drew (by simp [upK]) ?_
  refine ⟨fun w1 hC _ => by go_simp; exact Below.refl _ _, ?_⟩
  simp only [Act.put, List.setIfInBounds_toArray, List.set_cons_succ, List.set_cons_zero]
  refine ⟨fun w1 hC _ => by have hq := hC.one.at 2 _ rfl; go_simp; exact Below.refl _ _, ?_⟩
  simp only [Act.put, List.setIfInBounds_toArray, List.set_cons_succ, List.set_cons_zero]
  refine ⟨fun w1 hC _ => rel_load_row 23 _ rfl w.heap.size (by go_simp) 23 (⟨25, S, D, N, M, A, I, J, U, F, C, Y, G, X, O, L⟩ : Ins).cells (0, 0) _ hC.one.box Tryz.underlying23 rfl (by kernel_rfl), ?_⟩
  simp only [Act.put, List.setIfInBounds_toArray, List.set_cons_succ, List.set_cons_zero]
  refine ⟨fun w1 hC _ => ?_, ?_⟩
  · go_simp
    refine (stackRd_c ⟨25, S, D, N, M, A, I, J, U, F, C, Y, G, X, O, L⟩ w1).mono ?_
    rintro e w2 ⟨rfl, rfl⟩
    exact ⟨rfl, below_alloc _ _⟩
  simp only [Act.put, List.setIfInBounds_toArray, List.set_cons_succ, List.set_cons_zero]
  refine ⟨fun w1 hC _ => ?_, ?_⟩
  · go_simp
    refine (name_c D (spD ⟨25, S, D, N, M, A, I, J, U, F, C, Y, G, X, O, L⟩) hr.d0 hr.d1 w1 hC.tab).mono ?_
    rintro e w2 ⟨rfl, hb⟩
    exact ⟨rfl, hb⟩
  simp only [Act.put, List.setIfInBounds_toArray, List.set_cons_succ, List.set_cons_zero]
  refine ⟨fun w1 hC _ => by go_simp; exact Below.refl _ _, ?_⟩
  simp only [Act.put, List.setIfInBounds_toArray, List.set_cons_succ, List.set_cons_zero]
  refine ⟨fun w1 hC _ => by have hq := hC.one.at 3 _ rfl; go_simp; exact Below.refl _ _, ?_⟩
  simp only [Act.put, List.setIfInBounds_toArray, List.set_cons_succ, List.set_cons_zero]
  refine ⟨fun w1 hC _ => rel_load_row 23 _ rfl w.heap.size (by go_simp) 23 (⟨25, S, D, N, M, A, I, J, U, F, C, Y, G, X, O, L⟩ : Ins).cells (0, 0) _ hC.one.box Tryz.underlying23 rfl (by kernel_rfl), ?_⟩
  simp only [Act.put, List.setIfInBounds_toArray, List.set_cons_succ, List.set_cons_zero]
  refine ⟨fun w1 hC _ => ?_, ?_⟩
  · go_simp
    refine (stackRn_c ⟨25, S, D, N, M, A, I, J, U, F, C, Y, G, X, O, L⟩ w1).mono ?_
    rintro e w2 ⟨rfl, rfl⟩
    exact ⟨rfl, below_alloc _ _⟩
  simp only [Act.put, List.setIfInBounds_toArray, List.set_cons_succ, List.set_cons_zero]
  refine ⟨fun w1 hC _ => ?_, ?_⟩
  · go_simp
    refine (name_c N (spN ⟨25, S, D, N, M, A, I, J, U, F, C, Y, G, X, O, L⟩) hr.n0 hr.n1 w1 hC.tab).mono ?_
    rintro e w2 ⟨rfl, hb⟩
    exact ⟨rfl, hb⟩
  simp only [Act.put, List.setIfInBounds_toArray, List.set_cons_succ, List.set_cons_zero]
  refine ⟨fun w1 hC _ => by go_simp; exact Below.refl _ _, ?_⟩
  simp only [Act.put, List.setIfInBounds_toArray, List.set_cons_succ, List.set_cons_zero]
  refine ⟨fun w1 hC _ => by have hq := hC.one.at 4 _ rfl; go_simp; exact Below.refl _ _, ?_⟩
  simp only [Act.put, List.setIfInBounds_toArray, List.set_cons_succ, List.set_cons_zero]
  refine ⟨fun w1 hC _ => ?_, ?_⟩
  · go_simp
    refine (name_c M false hr.m0 hr.m1 w1 hC.tab).mono ?_
    rintro e w2 ⟨rfl, hb⟩
    exact ⟨rfl, hb⟩
  simp only [Act.put, List.setIfInBounds_toArray, List.set_cons_succ, List.set_cons_zero]
  refine ⟨fun w1 hC _ => by go_simp; exact Below.refl _ _, ?_⟩
  simp only [Act.put, List.setIfInBounds_toArray, List.set_cons_succ, List.set_cons_zero]
  refine ⟨fun w1 hC _ => by go_simp; exact Below.refl _ _, ?_⟩
  simp only [Act.put, List.setIfInBounds_toArray, List.set_cons_succ, List.set_cons_zero]
  refine ⟨fun w1 hC _ => by go_simp; exact Below.refl _ _, ?_⟩
  simp only [Act.put, List.setIfInBounds_toArray, List.set_cons_succ, List.set_cons_zero]
  clear HB
  intro w1 HB _
  have c0 := HB.one.at 0 _ rfl
  repeat' (first | with_reducible refine then_exit ?_ | with_reducible refine then_normal ?_ | with_reducible refine inBlock_eq ?_ | with_reducible refine inBlock_ne rfl ?_ | with_reducible refine inBlock_normal ?_ | (refine wpList_load_if rfl 23 _ rfl w.heap.size rfl 23 _ (0, 0) _ HB.one.box Tryz.underlying23 rfl (by kernel_rfl) ?_; simp only [Act.put, List.setIfInBounds_toArray, List.set_cons_succ, List.set_cons_zero]) | (go_at_call 61; refine (last25 S D N M A I J U F C Y G X O L _).mono ?_; rintro e w' ⟨v, rfl, hrow, hb⟩; dsimp only) | go_step)
  go_ret
  exact ⟨_, rfl, own_mono hrow HB.size, below_then HB.one.below hb⟩

set_option maxRecDepth 8000 in
set_option maxHeartbeats 8000000 in
theorem parts27 (S D N M A I J U F C Y : Int) (G X O L : Bool) (hr : InR ⟨27, S, D, N, M, A, I, J, U, F, C, Y, G, X, O, L⟩) (w : World) (T : Tab w) : Calls Tryz.prog 26 #[(⟨27, S, D, N, M, A, I, J, U, F, C, Y, G, X, O, L⟩ : Ins).val] w fun e w' => ∃ v, e = .returned v ∧ RowT w.heap.size (([] : List Tx)) v w' ∧ Below w.heap.size w w' := by
  have HB := oneT_start ⟨27, S, D, N, M, A, I, J, U, F, C, Y, G, X, O, L⟩ w T
  go_enter Tryz.func26, Tryz.ntmps26
  repeat' (first | with_reducible refine then_exit ?_ | with_reducible refine then_normal ?_ | with_reducible refine inBlock_eq ?_ | with_reducible refine inBlock_ne rfl ?_ | with_reducible refine inBlock_normal ?_ | go_step)
  refine wp_region_rel Grows (fun x => OneT ⟨27, S, D, N, M, A, I, J, U, F, C, Y, G, X, O, L⟩ w x) [.inl (.pointer (some ⟨w.heap.size, 2, none⟩)), .inl (vI D), .inl (⟨27, S, D, N, M, A, I, J, U, F, C, Y, G, X, O, L⟩ : Ins).val, .inl (.bool (spD ⟨27, S, D, N, M, A, I, J, U, F, C, Y, G, X, O, L⟩)), .inl (strV (rdT ⟨27, S, D, N, M, A, I, J, U, F, C, Y, G, X, O, L⟩)), .inl (.pointer (some ⟨w.heap.size, 3, none⟩)), .inl (vI N), .inl (⟨27, S, D, N, M, A, I, J, U, F, C, Y, G, X, O, L⟩ : Ins).val, .inl (.bool (spN ⟨27, S, D, N, M, A, I, J, U, F, C, Y, G, X, O, L⟩)), .inl (strV (rnT ⟨27, S, D, N, M, A, I, J, U, F, C, Y, G, X, O, L⟩)), .inl (.pointer (some ⟨w.heap.size, 4, none⟩)), .inl (vI M), .inl (strV (rmT ⟨27, S, D, N, M, A, I, J, U, F, C, Y, G, X, O, L⟩)), .inl (strV (rdT ⟨27, S, D, N, M, A, I, J, U, F, C, Y, G, X, O, L⟩)), .inl (strV (rnT ⟨27, S, D, N, M, A, I, J, U, F, C, Y, G, X, O, L⟩)), .inl (strV (rmT ⟨27, S, D, N, M, A, I, J, U, F, C, Y, G, X, O, L⟩))] (by kernel_rfl) (by kernel_rfl) (OneT.up _ _) HB.drew (by simp [upK]) ?_
  refine ⟨fun w1 hC _ => by go_simp; exact Below.refl _ _, ?_⟩
  simp only [Act.put, List.setIfInBounds_toArray, List.set_cons_succ, List.set_cons_zero]
  refine ⟨fun w1 hC _ => by have hq := hC.one.at 2 _ rfl; go_simp; exact Below.refl _ _, ?_⟩
  simp only [Act.put, List.setIfInBounds_toArray, List.set_cons_succ, List.set_cons_zero]
  refine ⟨fun w1 hC _ => rel_load_row 23 _ rfl w.heap.size (by go_simp) 23 (⟨27, S, D, N, M, A, I, J, U, F, C, Y, G, X, O, L⟩ : Ins).cells (0, 0) _ hC.one.box Tryz.underlying23 rfl (by kernel_rfl), ?_⟩
  simp only [Act.put, List.setIfInBounds_toArray, List.set_cons_succ, List.set_cons_zero]
  refine ⟨fun w1 hC _ => ?_, ?_⟩
  · go_simp
    refine (stackRd_c ⟨27, S, D, N, M, A, I, J, U, F, C, Y, G, X, O, L⟩ w1).mono ?_
    rintro e w2 ⟨rfl, rfl⟩
    exact ⟨rfl, below_alloc _ _⟩
  simp only [Act.put, List.setIfInBounds_toArray, List.set_cons_succ, List.set_cons_zero]
  refine ⟨fun w1 hC _ => ?_, ?_⟩
  · go_simp
    refine (name_c D (spD ⟨27, S, D, N, M, A, I, J, U, F, C, Y, G, X, O, L⟩) hr.d0 hr.d1 w1 hC.tab).mono ?_
    rintro e w2 ⟨rfl, hb⟩
    exact ⟨rfl, hb⟩
  simp only [Act.put, List.setIfInBounds_toArray, List.set_cons_succ, List.set_cons_zero]
  refine ⟨fun w1 hC _ => by go_simp; exact Below.refl _ _, ?_⟩
  simp only [Act.put, List.setIfInBounds_toArray, List.set_cons_succ, List.set_cons_zero]
  refine ⟨fun w1 hC _ => by have hq := hC.one.at 3 _ rfl; go_simp; exact Below.refl _ _, ?_⟩
  simp only [Act.put, List.setIfInBounds_toArray, List.set_cons_succ, List.set_cons_zero]
  refine ⟨fun w1 hC _ => rel_load_row 23 _ rfl w.heap.size (by go_simp) 23 (⟨27, S, D, N, M, A, I, J, U, F, C, Y, G, X, O, L⟩ : Ins).cells (0, 0) _ hC.one.box Tryz.underlying23 rfl (by kernel_rfl), ?_⟩
  simp only [Act.put, List.setIfInBounds_toArray, List.set_cons_succ, List.set_cons_zero]
  refine ⟨fun w1 hC _ => ?_, ?_⟩
  · go_simp
    refine (stackRn_c ⟨27, S, D, N, M, A, I, J, U, F, C, Y, G, X, O, L⟩ w1).mono ?_
    rintro e w2 ⟨rfl, rfl⟩
    exact ⟨rfl, below_alloc _ _⟩
  simp only [Act.put, List.setIfInBounds_toArray, List.set_cons_succ, List.set_cons_zero]
  refine ⟨fun w1 hC _ => ?_, ?_⟩
  · go_simp
    refine (name_c N (spN ⟨27, S, D, N, M, A, I, J, U, F, C, Y, G, X, O, L⟩) hr.n0 hr.n1 w1 hC.tab).mono ?_
    rintro e w2 ⟨rfl, hb⟩
    exact ⟨rfl, hb⟩
  simp only [Act.put, List.setIfInBounds_toArray, List.set_cons_succ, List.set_cons_zero]
  refine ⟨fun w1 hC _ => by go_simp; exact Below.refl _ _, ?_⟩
  simp only [Act.put, List.setIfInBounds_toArray, List.set_cons_succ, List.set_cons_zero]
  refine ⟨fun w1 hC _ => by have hq := hC.one.at 4 _ rfl; go_simp; exact Below.refl _ _, ?_⟩
  simp only [Act.put, List.setIfInBounds_toArray, List.set_cons_succ, List.set_cons_zero]
  refine ⟨fun w1 hC _ => ?_, ?_⟩
  · go_simp
    refine (name_c M false hr.m0 hr.m1 w1 hC.tab).mono ?_
    rintro e w2 ⟨rfl, hb⟩
    exact ⟨rfl, hb⟩
  simp only [Act.put, List.setIfInBounds_toArray, List.set_cons_succ, List.set_cons_zero]
  refine ⟨fun w1 hC _ => by go_simp; exact Below.refl _ _, ?_⟩
  simp only [Act.put, List.setIfInBounds_toArray, List.set_cons_succ, List.set_cons_zero]
  refine ⟨fun w1 hC _ => by go_simp; exact Below.refl _ _, ?_⟩
  simp only [Act.put, List.setIfInBounds_toArray, List.set_cons_succ, List.set_cons_zero]
  refine ⟨fun w1 hC _ => by go_simp; exact Below.refl _ _, ?_⟩
  simp only [Act.put, List.setIfInBounds_toArray, List.set_cons_succ, List.set_cons_zero]
  clear HB
  intro w1 HB _
  have c0 := HB.one.at 0 _ rfl
  repeat' (first | with_reducible refine then_exit ?_ | with_reducible refine then_normal ?_ | with_reducible refine inBlock_eq ?_ | with_reducible refine inBlock_ne rfl ?_ | with_reducible refine inBlock_normal ?_ | (refine wpList_load_if rfl 23 _ rfl w.heap.size rfl 23 _ (0, 0) _ HB.one.box Tryz.underlying23 rfl (by kernel_rfl) ?_; simp only [Act.put, List.setIfInBounds_toArray, List.set_cons_succ, List.set_cons_zero]) | (go_at_call 61; refine (last27 S D N M A I J U F C Y G X O L _).mono ?_; rintro e w' ⟨v, rfl, hrow, hb⟩; dsimp only) | go_step)
  go_ret
  exact ⟨_, rfl, own_mono hrow HB.size, below_then HB.one.below hb⟩
end Go.Proofs.YtjmdgfimmjodjaaGreatDoor
