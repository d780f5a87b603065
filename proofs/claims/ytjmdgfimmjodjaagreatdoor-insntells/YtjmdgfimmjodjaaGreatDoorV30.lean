/- The parts of an instruction that goes to memory: contracts. -/
import Derived.Test.YtjmdgfimmjodjaaGreatDoorV26
namespace Go.Proofs.YtjmdgfimmjodjaaGreatDoor
open Go.RowKit Go.Rel

set_option maxRecDepth 8000 in
set_option maxHeartbeats 8000000 in
theorem parts17 (S D N M A I J U F C Y : Int) (G X O L : Bool) (hr : InR ⟨17, S, D, N, M, A, I, J, U, F, C, Y, G, X, O, L⟩) (HN : Num ⟨17, S, D, N, M, A, I, J, U, F, C, Y, G, X, O, L⟩) (w : World) (T : Tab w) : Calls Tryz.prog 26 #[(⟨17, S, D, N, M, A, I, J, U, F, C, Y, G, X, O, L⟩ : Ins).val] w fun e w' => ∃ v, e = .returned v ∧ RowT w.heap.size ([rdT ⟨17, S, D, N, M, A, I, J, U, F, C, Y, G, X, O, L⟩, placeT [rnT ⟨17, S, D, N, M, A, I, J, U, F, C, Y, G, X, O, L⟩, numT I]]) v w' ∧ Below w.heap.size w w' := by
  have ln : (rnT ⟨17, S, D, N, M, A, I, J, U, F, C, Y, G, X, O, L⟩).length ≤ 100 := Nat.le_trans (reg_len _ hr.n0 hr.n1) (by decide)
  have li : (numT I).length ≤ 100 := Nat.le_trans (num_len HN.i0 HN.i1) (by decide)
  have HB := oneT_start ⟨17, S, D, N, M, A, I, J, U, F, C, Y, G, X, O, L⟩ w T
  go_enter Tryz.func26, Tryz.ntmps26
  repeat' (first | with_reducible refine then_exit ?_ | with_reducible refine then_normal ?_ | with_reducible refine inBlock_eq ?_ | with_reducible refine inBlock_ne rfl ?_ | with_reducible refine inBlock_normal ?_ | go_step)
  refine wp_region_rel Grows (fun x => OneT ⟨17, S, D, N, M, A, I, J, U, F, C, Y, G, X, O, L⟩ w x) [.inl (.pointer (some ⟨w.heap.size, 2, none⟩)), .inl (vI D), .inl (⟨17, S, D, N, M, A, I, J, U, F, C, Y, G, X, O, L⟩ : Ins).val, .inl (.bool (spD ⟨17, S, D, N, M, A, I, J, U, F, C, Y, G, X, O, L⟩)), .inl (strV (rdT ⟨17, S, D, N, M, A, I, J, U, F, C, Y, G, X, O, L⟩)), .inl (.pointer (some ⟨w.heap.size, 3, none⟩)), .inl (vI N), .inl (⟨17, S, D, N, M, A, I, J, U, F, C, Y, G, X, O, L⟩ : Ins).val, .inl (.bool (spN ⟨17, S, D, N, M, A, I, J, U, F, C, Y, G, X, O, L⟩)), .inl (strV (rnT ⟨17, S, D, N, M, A, I, J, U, F, C, Y, G, X, O, L⟩)), .inl (.pointer (some ⟨w.heap.size, 4, none⟩)), .inl (vI M), .inl (strV (rmT ⟨17, S, D, N, M, A, I, J, U, F, C, Y, G, X, O, L⟩)), .inl (strV (rdT ⟨17, S, D, N, M, A, I, J, U, F, C, Y, G, X, O, L⟩)), .inl (strV (rnT ⟨17, S, D, N, M, A, I, J, U, F, C, Y, G, X, O, L⟩)), .inl (strV (rmT ⟨17, S, D, N, M, A, I, J, U, F, C, Y, G, X, O, L⟩))] (by kernel_rfl) (by kernel_rfl) (OneT.up _ _) HB.drew (by simp [upK]) ?_
  refine ⟨fun w1 hC _ => by go_simp; exact Below.refl _ _, ?_⟩
  simp only [Act.put, List.setIfInBounds_toArray, List.set_cons_succ, List.set_cons_zero]
  refine ⟨fun w1 hC _ => by have hq := hC.one.at 2 _ rfl; go_simp; exact Below.refl _ _, ?_⟩
  simp only [Act.put, List.setIfInBounds_toArray, List.set_cons_succ, List.set_cons_zero]
  refine ⟨fun w1 hC _ => rel_load_row 23 _ rfl w.heap.size (by go_simp) 23 (⟨17, S, D, N, M, A, I, J, U, F, C, Y, G, X, O, L⟩ : Ins).cells (0, 0) _ hC.one.box Tryz.underlying23 rfl (by kernel_rfl), ?_⟩
  simp only [Act.put, List.setIfInBounds_toArray, List.set_cons_succ, List.set_cons_zero]
  refine ⟨fun w1 hC _ => ?_, ?_⟩
  · go_simp
    refine (stackRd_c ⟨17, S, D, N, M, A, I, J, U, F, C, Y, G, X, O, L⟩ w1).mono ?_
    rintro e w2 ⟨rfl, rfl⟩
    exact ⟨rfl, below_alloc _ _⟩
  simp only [Act.put, List.setIfInBounds_toArray, List.set_cons_succ, List.set_cons_zero]
  refine ⟨fun w1 hC _ => ?_, ?_⟩
  · go_simp
    refine (name_c D (spD ⟨17, S, D, N, M, A, I, J, U, F, C, Y, G, X, O, L⟩) hr.d0 hr.d1 w1 hC.tab).mono ?_
    rintro e w2 ⟨rfl, hb⟩
    exact ⟨rfl, hb⟩
  simp only [Act.put, List.setIfInBounds_toArray, List.set_cons_succ, List.set_cons_zero]
  refine ⟨fun w1 hC _ => by go_simp; exact Below.refl _ _, ?_⟩
  simp only [Act.put, List.setIfInBounds_toArray, List.set_cons_succ, List.set_cons_zero]
  refine ⟨fun w1 hC _ => by have hq := hC.one.at 3 _ rfl; go_simp; exact Below.refl _ _, ?_⟩
  simp only [Act.put, List.setIfInBounds_toArray, List.set_cons_succ, List.set_cons_zero]
  refine ⟨fun w1 hC _ => rel_load_row 23 _ rfl w.heap.size (by go_simp) 23 (⟨17, S, D, N, M, A, I, J, U, F, C, Y, G, X, O, L⟩ : Ins).cells (0, 0) _ hC.one.box Tryz.underlying23 rfl (by kernel_rfl), ?_⟩
  simp only [Act.put, List.setIfInBounds_toArray, List.set_cons_succ, List.set_cons_zero]
  refine ⟨fun w1 hC _ => ?_, ?_⟩
  · go_simp
    refine (stackRn_c ⟨17, S, D, N, M, A, I, J, U, F, C, Y, G, X, O, L⟩ w1).mono ?_
    rintro e w2 ⟨rfl, rfl⟩
    exact ⟨rfl, below_alloc _ _⟩
  simp only [Act.put, List.setIfInBounds_toArray, List.set_cons_succ, List.set_cons_zero]
  refine ⟨fun w1 hC _ => ?_, ?_⟩
  · go_simp
    refine (name_c N (spN ⟨17, S, D, N, M, A, I, J, U, F, C, Y, G, X, O, L⟩) hr.n0 hr.n1 w1 hC.tab).mono ?_
    rintro e w2 ⟨rfl, hb⟩
    exact ⟨rfl, hb⟩
  simp only [Act.put, List.setIfInBounds_toArray, List.set_cons_succ, List.set_cons_zero]
  refine ⟨fun w1 hC _ => by go_simp; exact Below.refl _ _, ?_⟩
  simp only [Act.put, List.setIfInBounds_toArray, List.set_cons_succ, List.set_cons_zero]
  refine ⟨fun w1 hC _ => by have hq := hC.one.at 4 _ rfl; go_simp; exact Below.refl _ _, ?_⟩
  simp only [Act.put, List.setIfInBounds_toArray, List.set_cons_succ, List.set_cons_zero]
  refine ⟨fun w1 hC _ => ?_, ?_⟩
  · go_simp
    refine (name_c M false hr.m0 hr.m1 w1 hC.tab).mono ?_
    rintro e w2 ⟨rfl, hb⟩
    exact ⟨rfl, hb⟩
  simp only [Act.put, List.setIfInBounds_toArray, List.set_cons_succ, List.set_cons_zero]
  refine ⟨fun w1 hC _ => by go_simp; exact Below.refl _ _, ?_⟩
  simp only [Act.put, List.setIfInBounds_toArray, List.set_cons_succ, List.set_cons_zero]
  refine ⟨fun w1 hC _ => by go_simp; exact Below.refl _ _, ?_⟩
  simp only [Act.put, List.setIfInBounds_toArray, List.set_cons_succ, List.set_cons_zero]
  refine ⟨fun w1 hC _ => by go_simp; exact Below.refl _ _, ?_⟩
  simp only [Act.put, List.setIfInBounds_toArray, List.set_cons_succ, List.set_cons_zero]
  clear HB
  intro w1 HB _
  have c0 := HB.one.at 0 _ rfl
  have c6 := HB.one.at 6 _ rfl
  repeat' (first | with_reducible refine then_exit ?_ | with_reducible refine then_normal ?_ | with_reducible refine inBlock_eq ?_ | with_reducible refine inBlock_ne rfl ?_ | with_reducible refine inBlock_normal ?_ | (go_at_call 54; refine (number_c I HN.i0 HN.i1 _ HB.tab).mono ?_; rintro e w' ⟨rfl, hb⟩; dsimp only; replace HB := HB.grow hb; clear hb) | (go_at_call 58; refine (place_c [rnT ⟨17, S, D, N, M, A, I, J, U, F, C, Y, G, X, O, L⟩, numT I] _ 0 _ (row_new _ [rnT ⟨17, S, D, N, M, A, I, J, U, F, C, Y, G, X, O, L⟩, numT I] (by simp) 0 (Nat.zero_le _)) (by simp) (le2 ln li) (by simp)).mono ?_; rintro e w' ⟨rfl, hb⟩; dsimp only; replace hb := below_then (below_alloc _ _) hb; replace HB := HB.grow hb; clear hb) | go_step)
  go_ret
  exact ⟨_, rfl, row_new _ [rdT ⟨17, S, D, N, M, A, I, J, U, F, C, Y, G, X, O, L⟩, placeT [rnT ⟨17, S, D, N, M, A, I, J, U, F, C, Y, G, X, O, L⟩, numT I]] (by simp) _ HB.size, below_then HB.one.below (below_alloc _ _)⟩

set_option maxRecDepth 8000 in
set_option maxHeartbeats 8000000 in
theorem parts18 (S D N M A I J U F C Y : Int) (G X O L : Bool) (hr : InR ⟨18, S, D, N, M, A, I, J, U, F, C, Y, G, X, O, L⟩) (HN : Num ⟨18, S, D, N, M, A, I, J, U, F, C, Y, G, X, O, L⟩) (w : World) (T : Tab w) : Calls Tryz.prog 26 #[(⟨18, S, D, N, M, A, I, J, U, F, C, Y, G, X, O, L⟩ : Ins).val] w fun e w' => ∃ v, e = .returned v ∧ RowT w.heap.size ([rdT ⟨18, S, D, N, M, A, I, J, U, F, C, Y, G, X, O, L⟩, placeT [rnT ⟨18, S, D, N, M, A, I, J, U, F, C, Y, G, X, O, L⟩, numT I]]) v w' ∧ Below w.heap.size w w' := by
  have ln : (rnT ⟨18, S, D, N, M, A, I, J, U, F, C, Y, G, X, O, L⟩).length ≤ 100 := Nat.le_trans (reg_len _ hr.n0 hr.n1) (by decide)
  have li : (numT I).length ≤ 100 := Nat.le_trans (num_len HN.i0 HN.i1) (by decide)
  have HB := oneT_start ⟨18, S, D, N, M, A, I, J, U, F, C, Y, G, X, O, L⟩ w T
  go_enter Tryz.func26, Tryz.ntmps26
  repeat' (first | with_reducible refine then_exit ?_ | with_reducible refine then_normal ?_ | with_reducible refine inBlock_eq ?_ | with_reducible refine inBlock_ne rfl ?_ | with_reducible refine inBlock_normal ?_ | go_step)
  refine wp_region_rel Grows (fun x => OneT ⟨18, S, D, N, M, A, I, J, U, F, C, Y, G, X, O, L⟩ w x) [.inl (.pointer (some ⟨w.heap.size, 2, none⟩)), .inl (vI D), .inl (⟨18, S, D, N, M, A, I, J, U, F, C, Y, G, X, O, L⟩ : Ins).val, .inl (.bool (spD ⟨18, S, D, N, M, A, I, J, U, F, C, Y, G, X, O, L⟩)), .inl (strV (rdT ⟨18, S, D, N, M, A, I, J, U, F, C, Y, G, X, O, L⟩)), .inl (.pointer (some ⟨w.heap.size, 3, none⟩)), .inl (vI N), .inl (⟨18, S, D, N, M, A, I, J, U, F, C, Y, G, X, O, L⟩ : Ins).val, .inl (.bool (spN ⟨18, S, D, N, M, A, I, J, U, F, C, Y, G, X, O, L⟩)), .inl (strV (rnT ⟨18, S, D, N, M, A, I, J, U, F, C, Y, G, X, O, L⟩)), .inl (.pointer (some ⟨w.heap.size, 4, none⟩)), .inl (vI M), .inl (strV (rmT ⟨18, S, D, N, M, A, I, J, U, F, C, Y, G, X, O, L⟩)), .inl (strV (rdT ⟨18, S, D, N, M, A, I, J, U, F, C, Y, G, X, O, L⟩)), .inl (strV (rnT ⟨18, S, D, N, M, A, I, J, U, F, C, Y, G, X, O, L⟩)), .inl (strV (rmT ⟨18, S, D, N, M, A, I, J, U, F, C, Y, G, X, O, L⟩))] (by kernel_rfl) (by kernel_rfl) (OneT.up _ _) HB.drew (by simp [upK]) ?_
  refine ⟨fun w1 hC _ => by go_simp; exact Below.refl _ _, ?_⟩
  simp only [Act.put, List.setIfInBounds_toArray, List.set_cons_succ, List.set_cons_zero]
  refine ⟨fun w1 hC _ => by have hq := hC.one.at 2 _ rfl; go_simp; exact Below.refl _ _, ?_⟩
  simp only [Act.put, List.setIfInBounds_toArray, List.set_cons_succ, List.set_cons_zero]
  refine ⟨fun w1 hC _ => rel_load_row 23 _ rfl w.heap.size (by go_simp) 23 (⟨18, S, D, N, M, A, I, J, U, F, C, Y, G, X, O, L⟩ : Ins).cells (0, 0) _ hC.one.box Tryz.underlying23 rfl (by kernel_rfl), ?_⟩
  simp only [Act.put, List.setIfInBounds_toArray, List.set_cons_succ, List.set_cons_zero]
  refine ⟨fun w1 hC _ => ?_, ?_⟩
  · go_simp
    refine (stackRd_c ⟨18, S, D, N, M, A, I, J, U, F, C, Y, G, X, O, L⟩ w1).mono ?_
    rintro e w2 ⟨rfl, rfl⟩
    exact ⟨rfl, below_alloc _ _⟩
  simp only [Act.put, List.setIfInBounds_toArray, List.set_cons_succ, List.set_cons_zero]
  refine ⟨fun w1 hC _ => ?_, ?_⟩
  · go_simp
    refine (name_c D (spD ⟨18, S, D, N, M, A, I, J, U, F, C, Y, G, X, O, L⟩) hr.d0 hr.d1 w1 hC.tab).mono ?_
    rintro e w2 ⟨rfl, hb⟩
    exact ⟨rfl, hb⟩
  simp only [Act.put, List.setIfInBounds_toArray, List.set_cons_succ, List.set_cons_zero]
  refine ⟨fun w1 hC _ => by go_simp; exact Below.refl _ _, ?_⟩
  simp only [Act.put, List.setIfInBounds_toArray, List.set_cons_succ, List.set_cons_zero]
  refine ⟨fun w1 hC _ => by have hq := hC.one.at 3 _ rfl; go_simp; exact Below.refl _ _, ?_⟩
  simp only [Act.put, List.setIfInBounds_toArray, List.set_cons_succ, List.set_cons_zero]
  refine ⟨fun w1 hC _ => rel_load_row 23 _ rfl w.heap.size (by go_simp) 23 (⟨18, S, D, N, M, A, I, J, U, F, C, Y, G, X, O, L⟩ : Ins).cells (0, 0) _ hC.one.box Tryz.underlying23 rfl (by kernel_rfl), ?_⟩
  simp only [Act.put, List.setIfInBounds_toArray, List.set_cons_succ, List.set_cons_zero]
  refine ⟨fun w1 hC _ => ?_, ?_⟩
  · go_simp
    refine (stackRn_c ⟨18, S, D, N, M, A, I, J, U, F, C, Y, G, X, O, L⟩ w1).mono ?_
    rintro e w2 ⟨rfl, rfl⟩
    exact ⟨rfl, below_alloc _ _⟩
  simp only [Act.put, List.setIfInBounds_toArray, List.set_cons_succ, List.set_cons_zero]
  refine ⟨fun w1 hC _ => ?_, ?_⟩
  · go_simp
    refine (name_c N (spN ⟨18, S, D, N, M, A, I, J, U, F, C, Y, G, X, O, L⟩) hr.n0 hr.n1 w1 hC.tab).mono ?_
    rintro e w2 ⟨rfl, hb⟩
    exact ⟨rfl, hb⟩
  simp only [Act.put, List.setIfInBounds_toArray, List.set_cons_succ, List.set_cons_zero]
  refine ⟨fun w1 hC _ => by go_simp; exact Below.refl _ _, ?_⟩
  simp only [Act.put, List.setIfInBounds_toArray, List.set_cons_succ, List.set_cons_zero]
  refine ⟨fun w1 hC _ => by have hq := hC.one.at 4 _ rfl; go_simp; exact Below.refl _ _, ?_⟩
  simp only [Act.put, List.setIfInBounds_toArray, List.set_cons_succ, List.set_cons_zero]
  refine ⟨fun w1 hC _ => ?_, ?_⟩
  · go_simp
    refine (name_c M false hr.m0 hr.m1 w1 hC.tab).mono ?_
    rintro e w2 ⟨rfl, hb⟩
    exact ⟨rfl, hb⟩
  simp only [Act.put, List.setIfInBounds_toArray, List.set_cons_succ, List.set_cons_zero]
  refine ⟨fun w1 hC _ => by go_simp; exact Below.refl _ _, ?_⟩
  simp only [Act.put, List.setIfInBounds_toArray, List.set_cons_succ, List.set_cons_zero]
  refine ⟨fun w1 hC _ => by go_simp; exact Below.refl _ _, ?_⟩
  simp only [Act.put, List.setIfInBounds_toArray, List.set_cons_succ, List.set_cons_zero]
  refine ⟨fun w1 hC _ => by go_simp; exact Below.refl _ _, ?_⟩
  simp only [Act.put, List.setIfInBounds_toArray, List.set_cons_succ, List.set_cons_zero]
  clear HB
  intro w1 HB _
  have c0 := HB.one.at 0 _ rfl
  have c6 := HB.one.at 6 _ rfl
  repeat' (first | with_reducible refine then_exit ?_ | with_reducible refine then_normal ?_ | with_reducible refine inBlock_eq ?_ | with_reducible refine inBlock_ne rfl ?_ | with_reducible refine inBlock_normal ?_ | (go_at_call 54; refine (number_c I HN.i0 HN.i1 _ HB.tab).mono ?_; rintro e w' ⟨rfl, hb⟩; dsimp only; replace HB := HB.grow hb; clear hb) | (go_at_call 58; refine (place_c [rnT ⟨18, S, D, N, M, A, I, J, U, F, C, Y, G, X, O, L⟩, numT I] _ 0 _ (row_new _ [rnT ⟨18, S, D, N, M, A, I, J, U, F, C, Y, G, X, O, L⟩, numT I] (by simp) 0 (Nat.zero_le _)) (by simp) (le2 ln li) (by simp)).mono ?_; rintro e w' ⟨rfl, hb⟩; dsimp only; replace hb := below_then (below_alloc _ _) hb; replace HB := HB.grow hb; clear hb) | go_step)
  go_ret
  exact ⟨_, rfl, row_new _ [rdT ⟨18, S, D, N, M, A, I, J, U, F, C, Y, G, X, O, L⟩, placeT [rnT ⟨18, S, D, N, M, A, I, J, U, F, C, Y, G, X, O, L⟩, numT I]] (by simp) _ HB.size, below_then HB.one.below (below_alloc _ _)⟩

set_option maxRecDepth 8000 in
set_option maxHeartbeats 8000000 in
theorem parts19 (S D N M A I J U F C Y : Int) (G X O L : Bool) (hr : InR ⟨19, S, D, N, M, A, I, J, U, F, C, Y, G, X, O, L⟩) (HN : Num ⟨19, S, D, N, M, A, I, J, U, F, C, Y, G, X, O, L⟩) (w : World) (T : Tab w) : Calls Tryz.prog 26 #[(⟨19, S, D, N, M, A, I, J, U, F, C, Y, G, X, O, L⟩ : Ins).val] w fun e w' => ∃ v, e = .returned v ∧ RowT w.heap.size ([rdT ⟨19, S, D, N, M, A, I, J, U, F, C, Y, G, X, O, L⟩, placeT [rnT ⟨19, S, D, N, M, A, I, J, U, F, C, Y, G, X, O, L⟩, rmT ⟨19, S, D, N, M, A, I, J, U, F, C, Y, G, X, O, L⟩, sftT 0 U]]) v w' ∧ Below w.heap.size w w' := by
  have ln : (rnT ⟨19, S, D, N, M, A, I, J, U, F, C, Y, G, X, O, L⟩).length ≤ 100 := Nat.le_trans (reg_len _ hr.n0 hr.n1) (by decide)
  have lm : (rmT ⟨19, S, D, N, M, A, I, J, U, F, C, Y, G, X, O, L⟩).length ≤ 100 := Nat.le_trans (reg_len _ hr.m0 hr.m1) (by decide)
  have lf : (sftT 0 U).length ≤ 100 := Nat.le_trans (sft_len (by decide) (by decide) HN.k0 HN.k1) (by decide)
  have hs3 : (shiftT 0).length = 3 := rfl
  have hn := num_len HN.k0 HN.k1
  dsimp only at hn
  have HB := oneT_start ⟨19, S, D, N, M, A, I, J, U, F, C, Y, G, X, O, L⟩ w T
  go_enter Tryz.func26, Tryz.ntmps26
  repeat' (first | with_reducible refine then_exit ?_ | with_reducible refine then_normal ?_ | with_reducible refine inBlock_eq ?_ | with_reducible refine inBlock_ne rfl ?_ | with_reducible refine inBlock_normal ?_ | go_step)
  refine wp_region_rel Grows (fun x => OneT ⟨19, S, D, N, M, A, I, J, U, F, C, Y, G, X, O, L⟩ w x) [.inl (.pointer (some ⟨w.heap.size, 2, none⟩)), .inl (vI D), .inl (⟨19, S, D, N, M, A, I, J, U, F, C, Y, G, X, O, L⟩ : Ins).val, .inl (.bool (spD ⟨19, S, D, N, M, A, I, J, U, F, C, Y, G, X, O, L⟩)), .inl (strV (rdT ⟨19, S, D, N, M, A, I, J, U, F, C, Y, G, X, O, L⟩)), .inl (.pointer (some ⟨w.heap.size, 3, none⟩)), .inl (vI N), .inl (⟨19, S, D, N, M, A, I, J, U, F, C, Y, G, X, O, L⟩ : Ins).val, .inl (.bool (spN ⟨19, S, D, N, M, A, I, J, U, F, C, Y, G, X, O, L⟩)), .inl (strV (rnT ⟨19, S, D, N, M, A, I, J, U, F, C, Y, G, X, O, L⟩)), .inl (.pointer (some ⟨w.heap.size, 4, none⟩)), .inl (vI M), .inl (strV (rmT ⟨19, S, D, N, M, A, I, J, U, F, C, Y, G, X, O, L⟩)), .inl (strV (rdT ⟨19, S, D, N, M, A, I, J, U, F, C, Y, G, X, O, L⟩)), .inl (strV (rnT ⟨19, S, D, N, M, A, I, J, U, F, C, Y, G, X, O, L⟩)), .inl (strV (rmT ⟨19, S, D, N, M, A, I, J, U, F, C, Y, G, X, O, L⟩))] (by kernel_rfl) (by kernel_rfl) (OneT.up _ _) HB.drew (by simp [upK]) ?_
  refine ⟨fun w1 hC _ => by go_simp; exact Below.refl _ _, ?_⟩
  simp only [Act.put, List.setIfInBounds_toArray, List.set_cons_succ, List.set_cons_zero]
  refine ⟨fun w1 hC _ => by have hq := hC.one.at 2 _ rfl; go_simp; exact Below.refl _ _, ?_⟩
  simp only [Act.put, List.setIfInBounds_toArray, List.set_cons_succ, List.set_cons_zero]
  refine ⟨fun w1 hC _ => rel_load_row 23 _ rfl w.heap.size (by go_simp) 23 (⟨19, S, D, N, M, A, I, J, U, F, C, Y, G, X, O, L⟩ : Ins).cells (0, 0) _ hC.one.box Tryz.underlying23 rfl (by kernel_rfl), ?_⟩
  simp only [Act.put, List.setIfInBounds_toArray, List.set_cons_succ, List.set_cons_zero]
  refine ⟨fun w1 hC _ => ?_, ?_⟩
  · go_simp
    refine (stackRd_c ⟨19, S, D, N, M, A, I, J, U, F, C, Y, G, X, O, L⟩ w1).mono ?_
    rintro e w2 ⟨rfl, rfl⟩
    exact ⟨rfl, below_alloc _ _⟩
  simp only [Act.put, List.setIfInBounds_toArray, List.set_cons_succ, List.set_cons_zero]
  refine ⟨fun w1 hC _ => ?_, ?_⟩
  · go_simp
    refine (name_c D (spD ⟨19, S, D, N, M, A, I, J, U, F, C, Y, G, X, O, L⟩) hr.d0 hr.d1 w1 hC.tab).mono ?_
    rintro e w2 ⟨rfl, hb⟩
    exact ⟨rfl, hb⟩
  simp only [Act.put, List.setIfInBounds_toArray, List.set_cons_succ, List.set_cons_zero]
  refine ⟨fun w1 hC _ => by go_simp; exact Below.refl _ _, ?_⟩
  simp only [Act.put, List.setIfInBounds_toArray, List.set_cons_succ, List.set_cons_zero]
  refine ⟨fun w1 hC _ => by have hq := hC.one.at 3 _ rfl; go_simp; exact Below.refl _ _, ?_⟩
  simp only [Act.put, List.setIfInBounds_toArray, List.set_cons_succ, List.set_cons_zero]
  refine ⟨fun w1 hC _ => rel_load_row 23 _ rfl w.heap.size (by go_simp) 23 (⟨19, S, D, N, M, A, I, J, U, F, C, Y, G, X, O, L⟩ : Ins).cells (0, 0) _ hC.one.box Tryz.underlying23 rfl (by kernel_rfl), ?_⟩
  simp only [Act.put, List.setIfInBounds_toArray, List.set_cons_succ, List.set_cons_zero]
  refine ⟨fun w1 hC _ => ?_, ?_⟩
  · go_simp
    refine (stackRn_c ⟨19, S, D, N, M, A, I, J, U, F, C, Y, G, X, O, L⟩ w1).mono ?_
    rintro e w2 ⟨rfl, rfl⟩
    exact ⟨rfl, below_alloc _ _⟩
  simp only [Act.put, List.setIfInBounds_toArray, List.set_cons_succ, List.set_cons_zero]
  refine ⟨fun w1 hC _ => ?_, ?_⟩
  · go_simp
    refine (name_c N (spN ⟨19, S, D, N, M, A, I, J, U, F, C, Y, G, X, O, L⟩) hr.n0 hr.n1 w1 hC.tab).mono ?_
    rintro e w2 ⟨rfl, hb⟩
    exact ⟨rfl, hb⟩
  simp only [Act.put, List.setIfInBounds_toArray, List.set_cons_succ, List.set_cons_zero]
  refine ⟨fun w1 hC _ => by go_simp; exact Below.refl _ _, ?_⟩
  simp only [Act.put, List.setIfInBounds_toArray, List.set_cons_succ, List.set_cons_zero]
  refine ⟨fun w1 hC _ => by have hq := hC.one.at 4 _ rfl; go_simp; exact Below.refl _ _, ?_⟩
  simp only [Act.put, List.setIfInBounds_toArray, List.set_cons_succ, List.set_cons_zero]
  refine ⟨fun w1 hC _ => ?_, ?_⟩
  · go_simp
    refine (name_c M false hr.m0 hr.m1 w1 hC.tab).mono ?_
    rintro e w2 ⟨rfl, hb⟩
    exact ⟨rfl, hb⟩
  simp only [Act.put, List.setIfInBounds_toArray, List.set_cons_succ, List.set_cons_zero]
  refine ⟨fun w1 hC _ => by go_simp; exact Below.refl _ _, ?_⟩
  simp only [Act.put, List.setIfInBounds_toArray, List.set_cons_succ, List.set_cons_zero]
  refine ⟨fun w1 hC _ => by go_simp; exact Below.refl _ _, ?_⟩
  simp only [Act.put, List.setIfInBounds_toArray, List.set_cons_succ, List.set_cons_zero]
  refine ⟨fun w1 hC _ => by go_simp; exact Below.refl _ _, ?_⟩
  simp only [Act.put, List.setIfInBounds_toArray, List.set_cons_succ, List.set_cons_zero]
  clear HB
  intro w1 HB _
  have c0 := HB.one.at 0 _ rfl
  repeat' (first | with_reducible refine then_exit ?_ | with_reducible refine then_normal ?_ | with_reducible refine inBlock_eq ?_ | with_reducible refine inBlock_ne rfl ?_ | with_reducible refine inBlock_normal ?_ | go_step)
  clear c0
  refine wp_region_rel Grows (fun x => OneT ⟨19, S, D, N, M, A, I, J, U, F, C, Y, G, X, O, L⟩ w x) [.inl (strV (rdT ⟨19, S, D, N, M, A, I, J, U, F, C, Y, G, X, O, L⟩)), .inl (strV (rnT ⟨19, S, D, N, M, A, I, J, U, F, C, Y, G, X, O, L⟩)), .inl (strV (rmT ⟨19, S, D, N, M, A, I, J, U, F, C, Y, G, X, O, L⟩)), .inl (strV (shiftT 0)), .inl (strV (shiftT 0 ++ [32])), .inl (.pointer (some ⟨w.heap.size, 8, none⟩)), .inl (vI U), .inl (strV (numT U)), .inl (strV (sftT 0 U)), .inr (RowT 0 [rnT ⟨19, S, D, N, M, A, I, J, U, F, C, Y, G, X, O, L⟩, rmT ⟨19, S, D, N, M, A, I, J, U, F, C, Y, G, X, O, L⟩, sftT 0 U]), .inl (strV (placeT [rnT ⟨19, S, D, N, M, A, I, J, U, F, C, Y, G, X, O, L⟩, rmT ⟨19, S, D, N, M, A, I, J, U, F, C, Y, G, X, O, L⟩, sftT 0 U])), .inr (RowT w.heap.size [rdT ⟨19, S, D, N, M, A, I, J, U, F, C, Y, G, X, O, L⟩, placeT [rnT ⟨19, S, D, N, M, A, I, J, U, F, C, Y, G, X, O, L⟩, rmT ⟨19, S, D, N, M, A, I, J, U, F, C, Y, G, X, O, L⟩, sftT 0 U]]), .inr (RowT w.heap.size [rdT ⟨19, S, D, N, M, A, I, J, U, F, C, Y, G, X, O, L⟩, placeT [rnT ⟨19, S, D, N, M, A, I, J, U, F, C, Y, G, X, O, L⟩, rmT ⟨19, S, D, N, M, A, I, J, U, F, C, Y, G, X, O, L⟩, sftT 0 U]])] (by kernel_rfl) (by kernel_rfl) (OneT.up _ _) HB.drew (by simp only [List.mem_cons, List.not_mem_nil, or_false]; rintro k hk; rcases hk with rfl | rfl | rfl | rfl | rfl | rfl | rfl | rfl | rfl | rfl | rfl | rfl | rfl <;> first | trivial | exact fun v => row_up _ _ v) ?_
  refine ⟨fun w1 hC _ => by go_simp; exact Below.refl _ _, ?_⟩
  simp only [Act.put, List.setIfInBounds_toArray, List.set_cons_succ, List.set_cons_zero]
  refine ⟨fun w1 hC _ => by go_simp; exact Below.refl _ _, ?_⟩
  simp only [Act.put, List.setIfInBounds_toArray, List.set_cons_succ, List.set_cons_zero]
  refine ⟨fun w1 hC _ => by go_simp; exact Below.refl _ _, ?_⟩
  simp only [Act.put, List.setIfInBounds_toArray, List.set_cons_succ, List.set_cons_zero]
  refine ⟨fun w1 hC _ => ?_, ?_⟩
  · go_simp
    refine (shift_c 0 (by decide) (by decide) w1).mono ?_
    rintro e w2 ⟨rfl, hb⟩
    exact ⟨rfl, hb⟩
  simp only [Act.put, List.setIfInBounds_toArray, List.set_cons_succ, List.set_cons_zero]
  refine ⟨fun w1 hC _ => ?_, ?_⟩
  · go_simp
    exact ⟨Below.refl _ _, str_app _ [32]⟩
  simp only [Act.put, List.setIfInBounds_toArray, List.set_cons_succ, List.set_cons_zero]
  refine ⟨fun w1 hC _ => by go_simp; exact Below.refl _ _, ?_⟩
  simp only [Act.put, List.setIfInBounds_toArray, List.set_cons_succ, List.set_cons_zero]
  refine ⟨fun w1 hC _ => by have hq := hC.one.at 8 _ rfl; go_simp; exact Below.refl _ _, ?_⟩
  simp only [Act.put, List.setIfInBounds_toArray, List.set_cons_succ, List.set_cons_zero]
  refine ⟨fun w1 hC _ => ?_, ?_⟩
  · go_simp
    refine (number_c U HN.k0 HN.k1 w1 hC.tab).mono ?_
    rintro e w2 ⟨rfl, hb⟩
    exact ⟨rfl, hb⟩
  simp only [Act.put, List.setIfInBounds_toArray, List.set_cons_succ, List.set_cons_zero]
  refine ⟨fun w1 hC _ => ?_, ?_⟩
  · go_simp
    first | exact ⟨Below.refl _ _, (str_app _ _).trans (by rw [List.append_assoc]; rfl)⟩ | (rw [if_neg (by first | omega | (simp only [List.length_append, List.length_cons, List.length_nil]; omega))]; exact ⟨Below.refl _ _, congrArg Value.string ((str_app _ _).trans (by rw [List.append_assoc]; rfl))⟩)
  simp only [Act.put, List.setIfInBounds_toArray, List.set_cons_succ, List.set_cons_zero]
  refine ⟨fun w1 hC _ => ?_, fun v1 => ?_⟩
  · go_simp
    exact ⟨below_alloc _ _, row_new w1 [rnT ⟨19, S, D, N, M, A, I, J, U, F, C, Y, G, X, O, L⟩, rmT ⟨19, S, D, N, M, A, I, J, U, F, C, Y, G, X, O, L⟩, sftT 0 U] (by simp) _ (Nat.zero_le _)⟩
  simp only [Act.put, List.setIfInBounds_toArray, List.set_cons_succ, List.set_cons_zero]
  refine ⟨fun w1 hC hF => ?_, ?_⟩
  · have hv := (hF 9 (by kernel_rfl)).1 rfl
    go_simp
    refine (place_c [rnT ⟨19, S, D, N, M, A, I, J, U, F, C, Y, G, X, O, L⟩, rmT ⟨19, S, D, N, M, A, I, J, U, F, C, Y, G, X, O, L⟩, sftT 0 U] _ 0 w1 hv (by simp) (le3 ln lm lf) (by simp)).mono ?_
    rintro e w2 ⟨rfl, hb⟩
    exact ⟨rfl, hb⟩
  simp only [Act.put, List.setIfInBounds_toArray, List.set_cons_succ, List.set_cons_zero]
  refine ⟨fun w1 hC _ => ?_, fun v2 => ?_⟩
  · go_simp
    exact ⟨below_alloc _ _, row_new w1 [rdT ⟨19, S, D, N, M, A, I, J, U, F, C, Y, G, X, O, L⟩, placeT [rnT ⟨19, S, D, N, M, A, I, J, U, F, C, Y, G, X, O, L⟩, rmT ⟨19, S, D, N, M, A, I, J, U, F, C, Y, G, X, O, L⟩, sftT 0 U]] (by simp) _ hC.size⟩
  simp only [Act.put, List.setIfInBounds_toArray, List.set_cons_succ, List.set_cons_zero]
  refine ⟨fun w1 hC hF => ?_, fun v3 => ?_⟩
  · have hv := (hF 11 (by kernel_rfl)).1 rfl
    go_simp
    first | exact ⟨Below.refl _ _, hv⟩ | exact Below.refl _ _
  simp only [Act.put, List.setIfInBounds_toArray, List.set_cons_succ, List.set_cons_zero]
  clear HB
  intro w1 HB hF
  have hrow2 := (hF 12).1 rfl
  repeat' (first | with_reducible refine then_exit ?_ | with_reducible refine then_normal ?_ | with_reducible refine inBlock_eq ?_ | with_reducible refine inBlock_ne rfl ?_ | with_reducible refine inBlock_normal ?_ | go_step)
  go_ret
  exact ⟨_, rfl, hrow2, HB.one.below⟩

set_option maxRecDepth 8000 in
set_option maxHeartbeats 8000000 in
theorem parts20 (S D N M A I J U F C Y : Int) (G X O L : Bool) (hr : InR ⟨20, S, D, N, M, A, I, J, U, F, C, Y, G, X, O, L⟩) (HN : Num ⟨20, S, D, N, M, A, I, J, U, F, C, Y, G, X, O, L⟩) (w : World) (T : Tab w) : Calls Tryz.prog 26 #[(⟨20, S, D, N, M, A, I, J, U, F, C, Y, G, X, O, L⟩ : Ins).val] w fun e w' => ∃ v, e = .returned v ∧ RowT w.heap.size ([rdT ⟨20, S, D, N, M, A, I, J, U, F, C, Y, G, X, O, L⟩, placeT [rnT ⟨20, S, D, N, M, A, I, J, U, F, C, Y, G, X, O, L⟩, rmT ⟨20, S, D, N, M, A, I, J, U, F, C, Y, G, X, O, L⟩, sftT 0 U]]) v w' ∧ Below w.heap.size w w' := by
  have ln : (rnT ⟨20, S, D, N, M, A, I, J, U, F, C, Y, G, X, O, L⟩).length ≤ 100 := Nat.le_trans (reg_len _ hr.n0 hr.n1) (by decide)
  have lm : (rmT ⟨20, S, D, N, M, A, I, J, U, F, C, Y, G, X, O, L⟩).length ≤ 100 := Nat.le_trans (reg_len _ hr.m0 hr.m1) (by decide)
  have lf : (sftT 0 U).length ≤ 100 := Nat.le_trans (sft_len (by decide) (by decide) HN.k0 HN.k1) (by decide)
  have hs3 : (shiftT 0).length = 3 := rfl
  have hn := num_len HN.k0 HN.k1
  dsimp only at hn
  have HB := oneT_start ⟨20, S, D, N, M, A, I, J, U, F, C, Y, G, X, O, L⟩ w T
  go_enter Tryz.func26, Tryz.ntmps26
  repeat' (first | with_reducible refine then_exit ?_ | with_reducible refine then_normal ?_ | with_reducible refine inBlock_eq ?_ | with_reducible refine inBlock_ne rfl ?_ | with_reducible refine inBlock_normal ?_ | go_step)
  refine wp_region_rel Grows (fun x => OneT ⟨20, S, D, N, M, A, I, J, U, F, C, Y, G, X, O, L⟩ w x) [.inl (.pointer (some ⟨w.heap.size, 2, none⟩)), .inl (vI D), .inl (⟨20, S, D, N, M, A, I, J, U, F, C, Y, G, X, O, L⟩ : Ins).val, .inl (.bool (spD ⟨20, S, D, N, M, A, I, J, U, F, C, Y, G, X, O, L⟩)), .inl (strV (rdT ⟨20, S, D, N, M, A, I, J, U, F, C, Y, G, X, O, L⟩)), .inl (.pointer (some ⟨w.heap.size, 3, none⟩)), .inl (vI N), .inl (⟨20, S, D, N, M, A, I, J, U, F, C, Y, G, X, O, L⟩ : Ins).val, .inl (.bool (spN ⟨20, S, D, N, M, A, I, J, U, F, C, Y, G, X, O, L⟩)), .inl (strV (rnT ⟨20, S, D, N, M, A, I, J, U, F, C, Y, G, X, O, L⟩)), .inl (.pointer (some ⟨w.heap.size, 4, none⟩)), .inl (vI M), .inl (strV (rmT ⟨20, S, D, N, M, A, I, J, U, F, C, Y, G, X, O, L⟩)), .inl (strV (rdT ⟨20, S, D, N, M, A, I, J, U, F, C, Y, G, X, O, L⟩)), .inl (strV (rnT ⟨20, S, D, N, M, A, I, J, U, F, C, Y, G, X, O, L⟩)), .inl (strV (rmT ⟨20, S, D, N, M, A, I, J, U, F, C, Y, G, X, O, L⟩))] (by kernel_rfl) (by kernel_rfl) (OneT.up _ _) HB.drew (by simp [upK]) ?_
  refine ⟨fun w1 hC _ => by go_simp; exact Below.refl _ _, ?_⟩
  simp only [Act.put, List.setIfInBounds_toArray, List.set_cons_succ, List.set_cons_zero]
  refine ⟨fun w1 hC _ => by have hq := hC.one.at 2 _ rfl; go_simp; exact Below.refl _ _, ?_⟩
  simp only [Act.put, List.setIfInBounds_toArray, List.set_cons_succ, List.set_cons_zero]
  refine ⟨fun w1 hC _ => rel_load_row 23 _ rfl w.heap.size (by go_simp) 23 (⟨20, S, D, N, M, A, I, J, U, F, C, Y, G, X, O, L⟩ : Ins).cells (0, 0) _ hC.one.box Tryz.underlying23 rfl (by kernel_rfl), ?_⟩
  simp only [Act.put, List.setIfInBounds_toArray, List.set_cons_succ, List.set_cons_zero]
  refine ⟨fun w1 hC _ => ?_, ?_⟩
  · go_simp
    refine (stackRd_c ⟨20, S, D, N, M, A, I, J, U, F, C, Y, G, X, O, L⟩ w1).mono ?_
    rintro e w2 ⟨rfl, rfl⟩
    exact ⟨rfl, below_alloc _ _⟩
  simp only [Act.put, List.setIfInBounds_toArray, List.set_cons_succ, List.set_cons_zero]
  refine ⟨fun w1 hC _ => ?_, ?_⟩
  · go_simp
    refine (name_c D (spD ⟨20, S, D, N, M, A, I, J, U, F, C, Y, G, X, O, L⟩) hr.d0 hr.d1 w1 hC.tab).mono ?_
    rintro e w2 ⟨rfl, hb⟩
    exact ⟨rfl, hb⟩
  simp only [Act.put, List.setIfInBounds_toArray, List.set_cons_succ, List.set_cons_zero]
  refine ⟨fun w1 hC _ => by go_simp; exact Below.refl _ _, ?_⟩
  simp only [Act.put, List.setIfInBounds_toArray, List.set_cons_succ, List.set_cons_zero]
  refine ⟨fun w1 hC _ => by have hq := hC.one.at 3 _ rfl; go_simp; exact Below.refl _ _, ?_⟩
  simp only [Act.put, List.setIfInBounds_toArray, List.set_cons_succ, List.set_cons_zero]
  refine ⟨fun w1 hC _ => rel_load_row 23 _ rfl w.heap.size (by go_simp) 23 (⟨20, S, D, N, M, A, I, J, U, F, C, Y, G, X, O, L⟩ : Ins).cells (0, 0) _ hC.one.box Tryz.underlying23 rfl (by kernel_rfl), ?_⟩
  simp only [Act.put, List.setIfInBounds_toArray, List.set_cons_succ, List.set_cons_zero]
  refine ⟨fun w1 hC _ => ?_, ?_⟩
  · go_simp
    refine (stackRn_c ⟨20, S, D, N, M, A, I, J, U, F, C, Y, G, X, O, L⟩ w1).mono ?_
    rintro e w2 ⟨rfl, rfl⟩
    exact ⟨rfl, below_alloc _ _⟩
  simp only [Act.put, List.setIfInBounds_toArray, List.set_cons_succ, List.set_cons_zero]
  refine ⟨fun w1 hC _ => ?_, ?_⟩
  · go_simp
    refine (name_c N (spN ⟨20, S, D, N, M, A, I, J, U, F, C, Y, G, X, O, L⟩) hr.n0 hr.n1 w1 hC.tab).mono ?_
    rintro e w2 ⟨rfl, hb⟩
    exact ⟨rfl, hb⟩
  simp only [Act.put, List.setIfInBounds_toArray, List.set_cons_succ, List.set_cons_zero]
  refine ⟨fun w1 hC _ => by go_simp; exact Below.refl _ _, ?_⟩
  simp only [Act.put, List.setIfInBounds_toArray, List.set_cons_succ, List.set_cons_zero]
  refine ⟨fun w1 hC _ => by have hq := hC.one.at 4 _ rfl; go_simp; exact Below.refl _ _, ?_⟩
  simp only [Act.put, List.setIfInBounds_toArray, List.set_cons_succ, List.set_cons_zero]
  refine ⟨fun w1 hC _ => ?_, ?_⟩
  · go_simp
    refine (name_c M false hr.m0 hr.m1 w1 hC.tab).mono ?_
    rintro e w2 ⟨rfl, hb⟩
    exact ⟨rfl, hb⟩
  simp only [Act.put, List.setIfInBounds_toArray, List.set_cons_succ, List.set_cons_zero]
  refine ⟨fun w1 hC _ => by go_simp; exact Below.refl _ _, ?_⟩
  simp only [Act.put, List.setIfInBounds_toArray, List.set_cons_succ, List.set_cons_zero]
  refine ⟨fun w1 hC _ => by go_simp; exact Below.refl _ _, ?_⟩
  simp only [Act.put, List.setIfInBounds_toArray, List.set_cons_succ, List.set_cons_zero]
  refine ⟨fun w1 hC _ => by go_simp; exact Below.refl _ _, ?_⟩
  simp only [Act.put, List.setIfInBounds_toArray, List.set_cons_succ, List.set_cons_zero]
  clear HB
  intro w1 HB _
  have c0 := HB.one.at 0 _ rfl
  repeat' (first | with_reducible refine then_exit ?_ | with_reducible refine then_normal ?_ | with_reducible refine inBlock_eq ?_ | with_reducible refine inBlock_ne rfl ?_ | with_reducible refine inBlock_normal ?_ | go_step)
  clear c0
  refine wp_region_rel Grows (fun x => OneT ⟨20, S, D, N, M, A, I, J, U, F, C, Y, G, X, O, L⟩ w x) [.inl (strV (rdT ⟨20, S, D, N, M, A, I, J, U, F, C, Y, G, X, O, L⟩)), .inl (strV (rnT ⟨20, S, D, N, M, A, I, J, U, F, C, Y, G, X, O, L⟩)), .inl (strV (rmT ⟨20, S, D, N, M, A, I, J, U, F, C, Y, G, X, O, L⟩)), .inl (strV (shiftT 0)), .inl (strV (shiftT 0 ++ [32])), .inl (.pointer (some ⟨w.heap.size, 8, none⟩)), .inl (vI U), .inl (strV (numT U)), .inl (strV (sftT 0 U)), .inr (RowT 0 [rnT ⟨20, S, D, N, M, A, I, J, U, F, C, Y, G, X, O, L⟩, rmT ⟨20, S, D, N, M, A, I, J, U, F, C, Y, G, X, O, L⟩, sftT 0 U]), .inl (strV (placeT [rnT ⟨20, S, D, N, M, A, I, J, U, F, C, Y, G, X, O, L⟩, rmT ⟨20, S, D, N, M, A, I, J, U, F, C, Y, G, X, O, L⟩, sftT 0 U])), .inr (RowT w.heap.size [rdT ⟨20, S, D, N, M, A, I, J, U, F, C, Y, G, X, O, L⟩, placeT [rnT ⟨20, S, D, N, M, A, I, J, U, F, C, Y, G, X, O, L⟩, rmT ⟨20, S, D, N, M, A, I, J, U, F, C, Y, G, X, O, L⟩, sftT 0 U]]), .inr (RowT w.heap.size [rdT ⟨20, S, D, N, M, A, I, J, U, F, C, Y, G, X, O, L⟩, placeT [rnT ⟨20, S, D, N, M, A, I, J, U, F, C, Y, G, X, O, L⟩, rmT ⟨20, S, D, N, M, A, I, J, U, F, C, Y, G, X, O, L⟩, sftT 0 U]])] (by kernel_rfl) (by kernel_rfl) (OneT.up _ _) HB.drew (by simp only [List.mem_cons, List.not_mem_nil, or_false]; rintro k hk; rcases hk with rfl | rfl | rfl | rfl | rfl | rfl | rfl | rfl | rfl | rfl | rfl | rfl | rfl <;> first | trivial | exact fun v => row_up _ _ v) ?_
  refine ⟨fun w1 hC _ => by go_simp; exact Below.refl _ _, ?_⟩
  simp only [Act.put, List.setIfInBounds_toArray, List.set_cons_succ, List.set_cons_zero]
  refine ⟨fun w1 hC _ => by go_simp; exact Below.refl _ _, ?_⟩
  simp only [Act.put, List.setIfInBounds_toArray, List.set_cons_succ, List.set_cons_zero]
  refine ⟨fun w1 hC _ => by go_simp; exact Below.refl _ _, ?_⟩
  simp only [Act.put, List.setIfInBounds_toArray, List.set_cons_succ, List.set_cons_zero]
  refine ⟨fun w1 hC _ => ?_, ?_⟩
  · go_simp
    refine (shift_c 0 (by decide) (by decide) w1).mono ?_
    rintro e w2 ⟨rfl, hb⟩
    exact ⟨rfl, hb⟩
  simp only [Act.put, List.setIfInBounds_toArray, List.set_cons_succ, List.set_cons_zero]
  refine ⟨fun w1 hC _ => ?_, ?_⟩
  · go_simp
    exact ⟨Below.refl _ _, str_app _ [32]⟩
  simp only [Act.put, List.setIfInBounds_toArray, List.set_cons_succ, List.set_cons_zero]
  refine ⟨fun w1 hC _ => by go_simp; exact Below.refl _ _, ?_⟩
  simp only [Act.put, List.setIfInBounds_toArray, List.set_cons_succ, List.set_cons_zero]
  refine ⟨fun w1 hC _ => by have hq := hC.one.at 8 _ rfl; go_simp; exact Below.refl _ _, ?_⟩
  simp only [Act.put, List.setIfInBounds_toArray, List.set_cons_succ, List.set_cons_zero]
  refine ⟨fun w1 hC _ => ?_, ?_⟩
  · go_simp
    refine (number_c U HN.k0 HN.k1 w1 hC.tab).mono ?_
    rintro e w2 ⟨rfl, hb⟩
    exact ⟨rfl, hb⟩
  simp only [Act.put, List.setIfInBounds_toArray, List.set_cons_succ, List.set_cons_zero]
  refine ⟨fun w1 hC _ => ?_, ?_⟩
  · go_simp
    first | exact ⟨Below.refl _ _, (str_app _ _).trans (by rw [List.append_assoc]; rfl)⟩ | (rw [if_neg (by first | omega | (simp only [List.length_append, List.length_cons, List.length_nil]; omega))]; exact ⟨Below.refl _ _, congrArg Value.string ((str_app _ _).trans (by rw [List.append_assoc]; rfl))⟩)
  simp only [Act.put, List.setIfInBounds_toArray, List.set_cons_succ, List.set_cons_zero]
  refine ⟨fun w1 hC _ => ?_, fun v1 => ?_⟩
  · go_simp
    exact ⟨below_alloc _ _, row_new w1 [rnT ⟨20, S, D, N, M, A, I, J, U, F, C, Y, G, X, O, L⟩, rmT ⟨20, S, D, N, M, A, I, J, U, F, C, Y, G, X, O, L⟩, sftT 0 U] (by simp) _ (Nat.zero_le _)⟩
  simp only [Act.put, List.setIfInBounds_toArray, List.set_cons_succ, List.set_cons_zero]
  refine ⟨fun w1 hC hF => ?_, ?_⟩
  · have hv := (hF 9 (by kernel_rfl)).1 rfl
    go_simp
    refine (place_c [rnT ⟨20, S, D, N, M, A, I, J, U, F, C, Y, G, X, O, L⟩, rmT ⟨20, S, D, N, M, A, I, J, U, F, C, Y, G, X, O, L⟩, sftT 0 U] _ 0 w1 hv (by simp) (le3 ln lm lf) (by simp)).mono ?_
    rintro e w2 ⟨rfl, hb⟩
    exact ⟨rfl, hb⟩
  simp only [Act.put, List.setIfInBounds_toArray, List.set_cons_succ, List.set_cons_zero]
  refine ⟨fun w1 hC _ => ?_, fun v2 => ?_⟩
  · go_simp
    exact ⟨below_alloc _ _, row_new w1 [rdT ⟨20, S, D, N, M, A, I, J, U, F, C, Y, G, X, O, L⟩, placeT [rnT ⟨20, S, D, N, M, A, I, J, U, F, C, Y, G, X, O, L⟩, rmT ⟨20, S, D, N, M, A, I, J, U, F, C, Y, G, X, O, L⟩, sftT 0 U]] (by simp) _ hC.size⟩
  simp only [Act.put, List.setIfInBounds_toArray, List.set_cons_succ, List.set_cons_zero]
  refine ⟨fun w1 hC hF => ?_, fun v3 => ?_⟩
  · have hv := (hF 11 (by kernel_rfl)).1 rfl
    go_simp
    first | exact ⟨Below.refl _ _, hv⟩ | exact Below.refl _ _
  simp only [Act.put, List.setIfInBounds_toArray, List.set_cons_succ, List.set_cons_zero]
  clear HB
  intro w1 HB hF
  have hrow2 := (hF 12).1 rfl
  repeat' (first | with_reducible refine then_exit ?_ | with_reducible refine then_normal ?_ | with_reducible refine inBlock_eq ?_ | with_reducible refine inBlock_ne rfl ?_ | with_reducible refine inBlock_normal ?_ | go_step)
  go_ret
  exact ⟨_, rfl, hrow2, HB.one.below⟩

set_option maxRecDepth 8000 in
set_option maxHeartbeats 8000000 in
theorem parts21 (S D N M A I J U F C Y : Int) (G X O L : Bool) (hr : InR ⟨21, S, D, N, M, A, I, J, U, F, C, Y, G, X, O, L⟩) (w : World) (T : Tab w) : Calls Tryz.prog 26 #[(⟨21, S, D, N, M, A, I, J, U, F, C, Y, G, X, O, L⟩ : Ins).val] w fun e w' => ∃ v, e = .returned v ∧ RowT w.heap.size ([rdT ⟨21, S, D, N, M, A, I, J, U, F, C, Y, G, X, O, L⟩, placeT [rnT ⟨21, S, D, N, M, A, I, J, U, F, C, Y, G, X, O, L⟩]]) v w' ∧ Below w.heap.size w w' := by
  have ln : (rnT ⟨21, S, D, N, M, A, I, J, U, F, C, Y, G, X, O, L⟩).length ≤ 100 := Nat.le_trans (reg_len _ hr.n0 hr.n1) (by decide)
  have HB := oneT_start ⟨21, S, D, N, M, A, I, J, U, F, C, Y, G, X, O, L⟩ w T
  go_enter Tryz.func26, Tryz.ntmps26
  repeat' (first | with_reducible refine then_exit ?_ | with_reducible refine then_normal ?_ | with_reducible refine inBlock_eq ?_ | with_reducible refine inBlock_ne rfl ?_ | with_reducible refine inBlock_normal ?_ | go_step)
  refine wp_region_rel Grows (fun x => OneT ⟨21, S, D, N, M, A, I, J, U, F, C, Y, G, X, O, L⟩ w x) [.inl (.pointer (some ⟨w.heap.size, 2, none⟩)), .inl (vI D), .inl (⟨21, S, D, N, M, A, I, J, U, F, C, Y, G, X, O, L⟩ : Ins).val, .inl (.bool (spD ⟨21, S, D, N, M, A, I, J, U, F, C, Y, G, X, O, L⟩)), .inl (strV (rdT ⟨21, S, D, N, M, A, I, J, U, F, C, Y, G, X, O, L⟩)), .inl (.pointer (some ⟨w.heap.size, 3, none⟩)), .inl (vI N), .inl (⟨21, S, D, N, M, A, I, J, U, F, C, Y, G, X, O, L⟩ : Ins).val, .inl (.bool (spN ⟨21, S, D, N, M, A, I, J, U, F, C, Y, G, X, O, L⟩)), .inl (strV (rnT ⟨21, S, D, N, M, A, I, J, U, F, C, Y, G, X, O, L⟩)), .inl (.pointer (some ⟨w.heap.size, 4, none⟩)), .inl (vI M), .inl (strV (rmT ⟨21, S, D, N, M, A, I, J, U, F, C, Y, G, X, O, L⟩)), .inl (strV (rdT ⟨21, S, D, N, M, A, I, J, U, F, C, Y, G, X, O, L⟩)), .inl (strV (rnT ⟨21, S, D, N, M, A, I, J, U, F, C, Y, G, X, O, L⟩)), .inl (strV (rmT ⟨21, S, D, N, M, A, I, J, U, F, C, Y, G, X, O, L⟩))] (by kernel_rfl) (by kernel_rfl) (OneT.up _ _) HB.drew (by simp [upK]) ?_
  refine ⟨fun w1 hC _ => by go_simp; exact Below.refl _ _, ?_⟩
  simp only [Act.put, List.setIfInBounds_toArray, List.set_cons_succ, List.set_cons_zero]
  refine ⟨fun w1 hC _ => by have hq := hC.one.at 2 _ rfl; go_simp; exact Below.refl _ _, ?_⟩
  simp only [Act.put, List.setIfInBounds_toArray, List.set_cons_succ, List.set_cons_zero]
  refine ⟨fun w1 hC _ => rel_load_row 23 _ rfl w.heap.size (by go_simp) 23 (⟨21, S, D, N, M, A, I, J, U, F, C, Y, G, X, O, L⟩ : Ins).cells (0, 0) _ hC.one.box Tryz.underlying23 rfl (by kernel_rfl), ?_⟩
  simp only [Act.put, List.setIfInBounds_toArray, List.set_cons_succ, List.set_cons_zero]
  refine ⟨fun w1 hC _ => ?_, ?_⟩
  · go_simp
    refine (stackRd_c ⟨21, S, D, N, M, A, I, J, U, F, C, Y, G, X, O, L⟩ w1).mono ?_
    rintro e w2 ⟨rfl, rfl⟩
    exact ⟨rfl, below_alloc _ _⟩
  simp only [Act.put, List.setIfInBounds_toArray, List.set_cons_succ, List.set_cons_zero]
  refine ⟨fun w1 hC _ => ?_, ?_⟩
  · go_simp
    refine (name_c D (spD ⟨21, S, D, N, M, A, I, J, U, F, C, Y, G, X, O, L⟩) hr.d0 hr.d1 w1 hC.tab).mono ?_
    rintro e w2 ⟨rfl, hb⟩
    exact ⟨rfl, hb⟩
  simp only [Act.put, List.setIfInBounds_toArray, List.set_cons_succ, List.set_cons_zero]
  refine ⟨fun w1 hC _ => by go_simp; exact Below.refl _ _, ?_⟩
  simp only [Act.put, List.setIfInBounds_toArray, List.set_cons_succ, List.set_cons_zero]
  refine ⟨fun w1 hC _ => by have hq := hC.one.at 3 _ rfl; go_simp; exact Below.refl _ _, ?_⟩
  simp only [Act.put, List.setIfInBounds_toArray, List.set_cons_succ, List.set_cons_zero]
  refine ⟨fun w1 hC _ => rel_load_row 23 _ rfl w.heap.size (by go_simp) 23 (⟨21, S, D, N, M, A, I, J, U, F, C, Y, G, X, O, L⟩ : Ins).cells (0, 0) _ hC.one.box Tryz.underlying23 rfl (by kernel_rfl), ?_⟩
  simp only [Act.put, List.setIfInBounds_toArray, List.set_cons_succ, List.set_cons_zero]
  refine ⟨fun w1 hC _ => ?_, ?_⟩
  · go_simp
    refine (stackRn_c ⟨21, S, D, N, M, A, I, J, U, F, C, Y, G, X, O, L⟩ w1).mono ?_
    rintro e w2 ⟨rfl, rfl⟩
    exact ⟨rfl, below_alloc _ _⟩
  simp only [Act.put, List.setIfInBounds_toArray, List.set_cons_succ, List.set_cons_zero]
  refine ⟨fun w1 hC _ => ?_, ?_⟩
  · go_simp
    refine (name_c N (spN ⟨21, S, D, N, M, A, I, J, U, F, C, Y, G, X, O, L⟩) hr.n0 hr.n1 w1 hC.tab).mono ?_
    rintro e w2 ⟨rfl, hb⟩
    exact ⟨rfl, hb⟩
  simp only [Act.put, List.setIfInBounds_toArray, List.set_cons_succ, List.set_cons_zero]
  refine ⟨fun w1 hC _ => by go_simp; exact Below.refl _ _, ?_⟩
  simp only [Act.put, List.setIfInBounds_toArray, List.set_cons_succ, List.set_cons_zero]
  refine ⟨fun w1 hC _ => by have hq := hC.one.at 4 _ rfl; go_simp; exact Below.refl _ _, ?_⟩
  simp only [Act.put, List.setIfInBounds_toArray, List.set_cons_succ, List.set_cons_zero]
  refine ⟨fun w1 hC _ => ?_, ?_⟩
  · go_simp
    refine (name_c M false hr.m0 hr.m1 w1 hC.tab).mono ?_
    rintro e w2 ⟨rfl, hb⟩
    exact ⟨rfl, hb⟩
  simp only [Act.put, List.setIfInBounds_toArray, List.set_cons_succ, List.set_cons_zero]
  refine ⟨fun w1 hC _ => by go_simp; exact Below.refl _ _, ?_⟩
  simp only [Act.put, List.setIfInBounds_toArray, List.set_cons_succ, List.set_cons_zero]
  refine ⟨fun w1 hC _ => by go_simp; exact Below.refl _ _, ?_⟩
  simp only [Act.put, List.setIfInBounds_toArray, List.set_cons_succ, List.set_cons_zero]
  refine ⟨fun w1 hC _ => by go_simp; exact Below.refl _ _, ?_⟩
  simp only [Act.put, List.setIfInBounds_toArray, List.set_cons_succ, List.set_cons_zero]
  clear HB
  intro w1 HB _
  have c0 := HB.one.at 0 _ rfl
  repeat' (first | with_reducible refine then_exit ?_ | with_reducible refine then_normal ?_ | with_reducible refine inBlock_eq ?_ | with_reducible refine inBlock_ne rfl ?_ | with_reducible refine inBlock_normal ?_ | (go_at_call 58; refine (place_c [rnT ⟨21, S, D, N, M, A, I, J, U, F, C, Y, G, X, O, L⟩] _ 0 _ (row_new _ [rnT ⟨21, S, D, N, M, A, I, J, U, F, C, Y, G, X, O, L⟩] (by simp) 0 (Nat.zero_le _)) (by simp) (le1 ln) (by simp)).mono ?_; rintro e w' ⟨rfl, hb⟩; dsimp only; replace hb := below_then (below_alloc _ _) hb; replace HB := HB.grow hb; clear hb) | go_step)
  go_ret
  exact ⟨_, rfl, row_new _ [rdT ⟨21, S, D, N, M, A, I, J, U, F, C, Y, G, X, O, L⟩, placeT [rnT ⟨21, S, D, N, M, A, I, J, U, F, C, Y, G, X, O, L⟩]] (by simp) _ HB.size, below_then HB.one.below (below_alloc _ _)⟩
end Go.Proofs.YtjmdgfimmjodjaaGreatDoor
