/- The parts of an instruction of six more Ops: contracts. -/
import Derived.Test.YtjmdgfimmjodjaaGreatDoorV26
namespace Go.Proofs.YtjmdgfimmjodjaaGreatDoor
open Go.RowKit Go.Rel

set_option maxRecDepth 8000 in
set_option maxHeartbeats 8000000 in
theorem parts6 (S D N M A I J U F C Y : Int) (G X O L : Bool) (hr : InR ⟨6, S, D, N, M, A, I, J, U, F, C, Y, G, X, O, L⟩) (HN : Num ⟨6, S, D, N, M, A, I, J, U, F, C, Y, G, X, O, L⟩) (w : World) (T : Tab w) : Calls Tryz.prog 26 #[(⟨6, S, D, N, M, A, I, J, U, F, C, Y, G, X, O, L⟩ : Ins).val] w fun e w' => ∃ v, e = .returned v ∧ RowT w.heap.size ([rdT ⟨6, S, D, N, M, A, I, J, U, F, C, Y, G, X, O, L⟩, rnT ⟨6, S, D, N, M, A, I, J, U, F, C, Y, G, X, O, L⟩, numT I, numT J]) v w' ∧ Below w.heap.size w w' := by
  have HB := oneT_start ⟨6, S, D, N, M, A, I, J, U, F, C, Y, G, X, O, L⟩ w T
  go_enter Tryz.func26, Tryz.ntmps26
  repeat' (first | with_reducible refine then_exit ?_ | with_reducible refine then_normal ?_ | with_reducible refine inBlock_eq ?_ | with_reducible refine inBlock_ne rfl ?_ | with_reducible refine inBlock_normal ?_ | go_step)
  refine wp_region_rel Grows (fun x => OneT ⟨6, S, D, N, M, A, I, J, U, F, C, Y, G, X, O, L⟩ w x) [.inl (.pointer (some ⟨w.heap.size, 2, none⟩)), .inl (vI D), .inl (⟨6, S, D, N, M, A, I, J, U, F, C, Y, G, X, O, L⟩ : Ins).val, .inl (.bool (spD ⟨6, S, D, N, M, A, I, J, U, F, C, Y, G, X, O, L⟩)), .inl (strV (rdT ⟨6, S, D, N, M, A, I, J, U, F, C, Y, G, X, O, L⟩)), .inl (.pointer (some ⟨w.heap.size, 3, none⟩)), .inl (vI N), .inl (⟨6, S, D, N, M, A, I, J, U, F, C, Y, G, X, O, L⟩ : Ins).val, .inl (.bool (spN ⟨6, S, D, N, M, A, I, J, U, F, C, Y, G, X, O, L⟩)), .inl (strV (rnT ⟨6, S, D, N, M, A, I, J, U, F, C, Y, G, X, O, L⟩)), .inl (.pointer (some ⟨w.heap.size, 4, none⟩)), .inl (vI M), .inl (strV (rmT ⟨6, S, D, N, M, A, I, J, U, F, C, Y, G, X, O, L⟩)), .inl (strV (rdT ⟨6, S, D, N, M, A, I, J, U, F, C, Y, G, X, O, L⟩)), .inl (strV (rnT ⟨6, S, D, N, M, A, I, J, U, F, C, Y, G, X, O, L⟩)), .inl (strV (rmT ⟨6, S, D, N, M, A, I, J, U, F, C, Y, G, X, O, L⟩))] (by kernel_rfl) (by kernel_rfl) (OneT.up _ _) HB.drew (by simp [upK]) ?_
  refine ⟨fun w1 hC _ => by go_simp; exact Below.refl _ _, ?_⟩
  simp only [Act.put, List.setIfInBounds_toArray, List.set_cons_succ, List.set_cons_zero]
  refine ⟨fun w1 hC _ => by have hq := hC.one.at 2 _ rfl; go_simp; exact Below.refl _ _, ?_⟩
  simp only [Act.put, List.setIfInBounds_toArray, List.set_cons_succ, List.set_cons_zero]
  refine ⟨fun w1 hC _ => rel_load_row 23 _ rfl w.heap.size (by go_simp) 23 (⟨6, S, D, N, M, A, I, J, U, F, C, Y, G, X, O, L⟩ : Ins).cells (0, 0) _ hC.one.box Tryz.underlying23 rfl (by kernel_rfl), ?_⟩
  simp only [Act.put, List.setIfInBounds_toArray, List.set_cons_succ, List.set_cons_zero]
  refine ⟨fun w1 hC _ => ?_, ?_⟩
  · go_simp
    refine (stackRd_c ⟨6, S, D, N, M, A, I, J, U, F, C, Y, G, X, O, L⟩ w1).mono ?_
    rintro e w2 ⟨rfl, rfl⟩
    exact ⟨rfl, below_alloc _ _⟩
  simp only [Act.put, List.setIfInBounds_toArray, List.set_cons_succ, List.set_cons_zero]
  refine ⟨fun w1 hC _ => ?_, ?_⟩
  · go_simp
    refine (name_c D (spD ⟨6, S, D, N, M, A, I, J, U, F, C, Y, G, X, O, L⟩) hr.d0 hr.d1 w1 hC.tab).mono ?_
    rintro e w2 ⟨rfl, hb⟩
    exact ⟨rfl, hb⟩
  simp only [Act.put, List.setIfInBounds_toArray, List.set_cons_succ, List.set_cons_zero]
  refine ⟨fun w1 hC _ => by go_simp; exact Below.refl _ _, ?_⟩
  simp only [Act.put, List.setIfInBounds_toArray, List.set_cons_succ, List.set_cons_zero]
  refine ⟨fun w1 hC _ => by have hq := hC.one.at 3 _ rfl; go_simp; exact Below.refl _ _, ?_⟩
  simp only [Act.put, List.setIfInBounds_toArray, List.set_cons_succ, List.set_cons_zero]
  refine ⟨fun w1 hC _ => rel_load_row 23 _ rfl w.heap.size (by go_simp) 23 (⟨6, S, D, N, M, A, I, J, U, F, C, Y, G, X, O, L⟩ : Ins).cells (0, 0) _ hC.one.box Tryz.underlying23 rfl (by kernel_rfl), ?_⟩
  simp only [Act.put, List.setIfInBounds_toArray, List.set_cons_succ, List.set_cons_zero]
  refine ⟨fun w1 hC _ => ?_, ?_⟩
  · go_simp
    refine (stackRn_c ⟨6, S, D, N, M, A, I, J, U, F, C, Y, G, X, O, L⟩ w1).mono ?_
    rintro e w2 ⟨rfl, rfl⟩
    exact ⟨rfl, below_alloc _ _⟩
  simp only [Act.put, List.setIfInBounds_toArray, List.set_cons_succ, List.set_cons_zero]
  refine ⟨fun w1 hC _ => ?_, ?_⟩
  · go_simp
    refine (name_c N (spN ⟨6, S, D, N, M, A, I, J, U, F, C, Y, G, X, O, L⟩) hr.n0 hr.n1 w1 hC.tab).mono ?_
    rintro e w2 ⟨rfl, hb⟩
    exact ⟨rfl, hb⟩
  simp only [Act.put, List.setIfInBounds_toArray, List.set_cons_succ, List.set_cons_zero]
  refine ⟨fun w1 hC _ => by go_simp; exact Below.refl _ _, ?_⟩
  simp only [Act.put, List.setIfInBounds_toArray, List.set_cons_succ, List.set_cons_zero]
  refine ⟨fun w1 hC _ => by have hq := hC.one.at 4 _ rfl; go_simp; exact Below.refl _ _, ?_⟩
  simp only [Act.put, List.setIfInBounds_toArray, List.set_cons_succ, List.set_cons_zero]
  refine ⟨fun w1 hC _ => ?_, ?_⟩
  · go_simp
    refine (name_c M false hr.m0 hr.m1 w1 hC.tab).mono ?_
    rintro e w2 ⟨rfl, hb⟩
    exact ⟨rfl, hb⟩
  simp only [Act.put, List.setIfInBounds_toArray, List.set_cons_succ, List.set_cons_zero]
  refine ⟨fun w1 hC _ => by go_simp; exact Below.refl _ _, ?_⟩
  simp only [Act.put, List.setIfInBounds_toArray, List.set_cons_succ, List.set_cons_zero]
  refine ⟨fun w1 hC _ => by go_simp; exact Below.refl _ _, ?_⟩
  simp only [Act.put, List.setIfInBounds_toArray, List.set_cons_succ, List.set_cons_zero]
  refine ⟨fun w1 hC _ => by go_simp; exact Below.refl _ _, ?_⟩
  simp only [Act.put, List.setIfInBounds_toArray, List.set_cons_succ, List.set_cons_zero]
  clear HB
  intro w1 HB _
  have c0 := HB.one.at 0 _ rfl
  repeat' (first | with_reducible refine then_exit ?_ | with_reducible refine then_normal ?_ | with_reducible refine inBlock_eq ?_ | with_reducible refine inBlock_ne rfl ?_ | with_reducible refine inBlock_normal ?_ | go_step)
  clear c0
  refine wp_region_rel Grows (fun x => OneT ⟨6, S, D, N, M, A, I, J, U, F, C, Y, G, X, O, L⟩ w x) [.inl (strV (rdT ⟨6, S, D, N, M, A, I, J, U, F, C, Y, G, X, O, L⟩)), .inl (strV (rnT ⟨6, S, D, N, M, A, I, J, U, F, C, Y, G, X, O, L⟩)), .inl (.pointer (some ⟨w.heap.size, 6, none⟩)), .inl (vI I), .inl (strV (numT I)), .inl (.pointer (some ⟨w.heap.size, 7, none⟩)), .inl (vI J), .inl (strV (numT J)), .inr (RowT w.heap.size [rdT ⟨6, S, D, N, M, A, I, J, U, F, C, Y, G, X, O, L⟩, rnT ⟨6, S, D, N, M, A, I, J, U, F, C, Y, G, X, O, L⟩, numT I, numT J]), .inr (RowT w.heap.size [rdT ⟨6, S, D, N, M, A, I, J, U, F, C, Y, G, X, O, L⟩, rnT ⟨6, S, D, N, M, A, I, J, U, F, C, Y, G, X, O, L⟩, numT I, numT J])] (by kernel_rfl) (by kernel_rfl) (OneT.up _ _) HB.drew (by simp only [List.mem_cons, List.not_mem_nil, or_false]; rintro k hk; rcases hk with rfl | rfl | rfl | rfl | rfl | rfl | rfl | rfl | rfl | rfl <;> first | trivial | exact fun v => row_up _ _ v) ?_
  refine ⟨fun w1 hC _ => by go_simp; exact Below.refl _ _, ?_⟩
  simp only [Act.put, List.setIfInBounds_toArray, List.set_cons_succ, List.set_cons_zero]
  refine ⟨fun w1 hC _ => by go_simp; exact Below.refl _ _, ?_⟩
  simp only [Act.put, List.setIfInBounds_toArray, List.set_cons_succ, List.set_cons_zero]
  refine ⟨fun w1 hC _ => by go_simp; exact Below.refl _ _, ?_⟩
  simp only [Act.put, List.setIfInBounds_toArray, List.set_cons_succ, List.set_cons_zero]
  refine ⟨fun w1 hC _ => by have hq := hC.one.at 6 _ rfl; go_simp; exact Below.refl _ _, ?_⟩
  simp only [Act.put, List.setIfInBounds_toArray, List.set_cons_succ, List.set_cons_zero]
  refine ⟨fun w1 hC _ => ?_, ?_⟩
  · go_simp
    refine (number_c I HN.i0 HN.i1 w1 hC.tab).mono ?_
    rintro e w2 ⟨rfl, hb⟩
    exact ⟨rfl, hb⟩
  simp only [Act.put, List.setIfInBounds_toArray, List.set_cons_succ, List.set_cons_zero]
  refine ⟨fun w1 hC _ => by go_simp; exact Below.refl _ _, ?_⟩
  simp only [Act.put, List.setIfInBounds_toArray, List.set_cons_succ, List.set_cons_zero]
  refine ⟨fun w1 hC _ => by have hq := hC.one.at 7 _ rfl; go_simp; exact Below.refl _ _, ?_⟩
  simp only [Act.put, List.setIfInBounds_toArray, List.set_cons_succ, List.set_cons_zero]
  refine ⟨fun w1 hC _ => ?_, ?_⟩
  · go_simp
    refine (number_c J HN.j0 HN.j1 w1 hC.tab).mono ?_
    rintro e w2 ⟨rfl, hb⟩
    exact ⟨rfl, hb⟩
  simp only [Act.put, List.setIfInBounds_toArray, List.set_cons_succ, List.set_cons_zero]
  refine ⟨fun w1 hC _ => ?_, fun v1 => ?_⟩
  · go_simp
    exact ⟨below_alloc _ _, row_new w1 [rdT ⟨6, S, D, N, M, A, I, J, U, F, C, Y, G, X, O, L⟩, rnT ⟨6, S, D, N, M, A, I, J, U, F, C, Y, G, X, O, L⟩, numT I, numT J] (by simp) _ hC.size⟩
  simp only [Act.put, List.setIfInBounds_toArray, List.set_cons_succ, List.set_cons_zero]
  refine ⟨fun w1 hC hF => ?_, fun v2 => ?_⟩
  · have hv := (hF 8 (by kernel_rfl)).1 rfl
    go_simp
    first | exact ⟨Below.refl _ _, hv⟩ | exact Below.refl _ _
  simp only [Act.put, List.setIfInBounds_toArray, List.set_cons_succ, List.set_cons_zero]
  clear HB
  intro w1 HB hF
  have hrow2 := (hF 9).1 rfl
  repeat' (first | with_reducible refine then_exit ?_ | with_reducible refine then_normal ?_ | with_reducible refine inBlock_eq ?_ | with_reducible refine inBlock_ne rfl ?_ | with_reducible refine inBlock_normal ?_ | go_step)
  go_ret
  exact ⟨_, rfl, hrow2, HB.one.below⟩

set_option maxRecDepth 8000 in
set_option maxHeartbeats 8000000 in
theorem parts7 (S D N M A I J U F C Y : Int) (G X O L : Bool) (hr : InR ⟨7, S, D, N, M, A, I, J, U, F, C, Y, G, X, O, L⟩) (w : World) (T : Tab w) : Calls Tryz.prog 26 #[(⟨7, S, D, N, M, A, I, J, U, F, C, Y, G, X, O, L⟩ : Ins).val] w fun e w' => ∃ v, e = .returned v ∧ RowT w.heap.size ([rdT ⟨7, S, D, N, M, A, I, J, U, F, C, Y, G, X, O, L⟩, rnT ⟨7, S, D, N, M, A, I, J, U, F, C, Y, G, X, O, L⟩, rmT ⟨7, S, D, N, M, A, I, J, U, F, C, Y, G, X, O, L⟩]) v w' ∧ Below w.heap.size w w' := by
  have HB := oneT_start ⟨7, S, D, N, M, A, I, J, U, F, C, Y, G, X, O, L⟩ w T
  go_enter Tryz.func26, Tryz.ntmps26
  repeat' (first | with_reducible refine then_exit ?_ | with_reducible refine then_normal ?_ | with_reducible refine inBlock_eq ?_ | with_reducible refine inBlock_ne rfl ?_ | with_reducible refine inBlock_normal ?_ | go_step)
  refine wp_region_rel Grows (fun x => OneT ⟨7, S, D, N, M, A, I, J, U, F, C, Y, G, X, O, L⟩ w x) [.inl (.pointer (some ⟨w.heap.size, 2, none⟩)), .inl (vI D), .inl (⟨7, S, D, N, M, A, I, J, U, F, C, Y, G, X, O, L⟩ : Ins).val, .inl (.bool (spD ⟨7, S, D, N, M, A, I, J, U, F, C, Y, G, X, O, L⟩)), .inl (strV (rdT ⟨7, S, D, N, M, A, I, J, U, F, C, Y, G, X, O, L⟩)), .inl (.pointer (some ⟨w.heap.size, 3, none⟩)), .inl (vI N), .inl (⟨7, S, D, N, M, A, I, J, U, F, C, Y, G, X, O, L⟩ : Ins).val, .inl (.bool (spN ⟨7, S, D, N, M, A, I, J, U, F, C, Y, G, X, O, L⟩)), .inl (strV (rnT ⟨7, S, D, N, M, A, I, J, U, F, C, Y, G, X, O, L⟩)), .inl (.pointer (some ⟨w.heap.size, 4, none⟩)), .inl (vI M), .inl (strV (rmT ⟨7, S, D, N, M, A, I, J, U, F, C, Y, G, X, O, L⟩)), .inl (strV (rdT ⟨7, S, D, N, M, A, I, J, U, F, C, Y, G, X, O, L⟩)), .inl (strV (rnT ⟨7, S, D, N, M, A, I, J, U, F, C, Y, G, X, O, L⟩)), .inl (strV (rmT ⟨7, S, D, N, M, A, I, J, U, F, C, Y, G, X, O, L⟩))] (by kernel_rfl) (by kernel_rfl) (OneT.up _ _) HB.drew (by simp [upK]) ?_
  refine ⟨fun w1 hC _ => by go_simp; exact Below.refl _ _, ?_⟩
  simp only [Act.put, List.setIfInBounds_toArray, List.set_cons_succ, List.set_cons_zero]
  refine ⟨fun w1 hC _ => by have hq := hC.one.at 2 _ rfl; go_simp; exact Below.refl _ _, ?_⟩
  simp only [Act.put, List.setIfInBounds_toArray, List.set_cons_succ, List.set_cons_zero]
  refine ⟨fun w1 hC _ => rel_load_row 23 _ rfl w.heap.size (by go_simp) 23 (⟨7, S, D, N, M, A, I, J, U, F, C, Y, G, X, O, L⟩ : Ins).cells (0, 0) _ hC.one.box Tryz.underlying23 rfl (by kernel_rfl), ?_⟩
  simp only [Act.put, List.setIfInBounds_toArray, List.set_cons_succ, List.set_cons_zero]
  refine ⟨fun w1 hC _ => ?_, ?_⟩
  · go_simp
    refine (stackRd_c ⟨7, S, D, N, M, A, I, J, U, F, C, Y, G, X, O, L⟩ w1).mono ?_
    rintro e w2 ⟨rfl, rfl⟩
    exact ⟨rfl, below_alloc _ _⟩
  simp only [Act.put, List.setIfInBounds_toArray, List.set_cons_succ, List.set_cons_zero]
  refine ⟨fun w1 hC _ => ?_, ?_⟩
  · go_simp
    refine (name_c D (spD ⟨7, S, D, N, M, A, I, J, U, F, C, Y, G, X, O, L⟩) hr.d0 hr.d1 w1 hC.tab).mono ?_
    rintro e w2 ⟨rfl, hb⟩
    exact ⟨rfl, hb⟩
  simp only [Act.put, List.setIfInBounds_toArray, List.set_cons_succ, List.set_cons_zero]
  refine ⟨fun w1 hC _ => by go_simp; exact Below.refl _ _, ?_⟩
  simp only [Act.put, List.setIfInBounds_toArray, List.set_cons_succ, List.set_cons_zero]
  refine ⟨fun w1 hC _ => by have hq := hC.one.at 3 _ rfl; go_simp; exact Below.refl _ _, ?_⟩
  simp only [Act.put, List.setIfInBounds_toArray, List.set_cons_succ, List.set_cons_zero]
  refine ⟨fun w1 hC _ => rel_load_row 23 _ rfl w.heap.size (by go_simp) 23 (⟨7, S, D, N, M, A, I, J, U, F, C, Y, G, X, O, L⟩ : Ins).cells (0, 0) _ hC.one.box Tryz.underlying23 rfl (by kernel_rfl), ?_⟩
  simp only [Act.put, List.setIfInBounds_toArray, List.set_cons_succ, List.set_cons_zero]
  refine ⟨fun w1 hC _ => ?_, ?_⟩
  · go_simp
    refine (stackRn_c ⟨7, S, D, N, M, A, I, J, U, F, C, Y, G, X, O, L⟩ w1).mono ?_
    rintro e w2 ⟨rfl, rfl⟩
    exact ⟨rfl, below_alloc _ _⟩
  simp only [Act.put, List.setIfInBounds_toArray, List.set_cons_succ, List.set_cons_zero]
  refine ⟨fun w1 hC _ => ?_, ?_⟩
  · go_simp
    refine (name_c N (spN ⟨7, S, D, N, M, A, I, J, U, F, C, Y, G, X, O, L⟩) hr.n0 hr.n1 w1 hC.tab).mono ?_
    rintro e w2 ⟨rfl, hb⟩
    exact ⟨rfl, hb⟩
  simp only [Act.put, List.setIfInBounds_toArray, List.set_cons_succ, List.set_cons_zero]
  refine ⟨fun w1 hC _ => by go_simp; exact Below.refl _ _, ?_⟩
  simp only [Act.put, List.setIfInBounds_toArray, List.set_cons_succ, List.set_cons_zero]
  refine ⟨fun w1 hC _ => by have hq := hC.one.at 4 _ rfl; go_simp; exact Below.refl _ _, ?_⟩
  simp only [Act.put, List.setIfInBounds_toArray, List.set_cons_succ, List.set_cons_zero]
  refine ⟨fun w1 hC _ => ?_, ?_⟩
  · go_simp
    refine (name_c M false hr.m0 hr.m1 w1 hC.tab).mono ?_
    rintro e w2 ⟨rfl, hb⟩
    exact ⟨rfl, hb⟩
  simp only [Act.put, List.setIfInBounds_toArray, List.set_cons_succ, List.set_cons_zero]
  refine ⟨fun w1 hC _ => by go_simp; exact Below.refl _ _, ?_⟩
  simp only [Act.put, List.setIfInBounds_toArray, List.set_cons_succ, List.set_cons_zero]
  refine ⟨fun w1 hC _ => by go_simp; exact Below.refl _ _, ?_⟩
  simp only [Act.put, List.setIfInBounds_toArray, List.set_cons_succ, List.set_cons_zero]
  refine ⟨fun w1 hC _ => by go_simp; exact Below.refl _ _, ?_⟩
  simp only [Act.put, List.setIfInBounds_toArray, List.set_cons_succ, List.set_cons_zero]
  clear HB
  intro w1 HB _
  have c0 := HB.one.at 0 _ rfl
  repeat' (first | with_reducible refine then_exit ?_ | with_reducible refine then_normal ?_ | with_reducible refine inBlock_eq ?_ | with_reducible refine inBlock_ne rfl ?_ | with_reducible refine inBlock_normal ?_ | go_step)
  go_ret
  exact ⟨_, rfl, row_new _ [rdT ⟨7, S, D, N, M, A, I, J, U, F, C, Y, G, X, O, L⟩, rnT ⟨7, S, D, N, M, A, I, J, U, F, C, Y, G, X, O, L⟩, rmT ⟨7, S, D, N, M, A, I, J, U, F, C, Y, G, X, O, L⟩] (by simp) _ HB.size, below_then HB.one.below (below_alloc _ _)⟩

set_option maxRecDepth 8000 in
set_option maxHeartbeats 8000000 in
theorem parts8 (S D N M A I J U F C Y : Int) (G X O L : Bool) (hr : InR ⟨8, S, D, N, M, A, I, J, U, F, C, Y, G, X, O, L⟩) (w : World) (T : Tab w) : Calls Tryz.prog 26 #[(⟨8, S, D, N, M, A, I, J, U, F, C, Y, G, X, O, L⟩ : Ins).val] w fun e w' => ∃ v, e = .returned v ∧ RowT w.heap.size ([rdT ⟨8, S, D, N, M, A, I, J, U, F, C, Y, G, X, O, L⟩, rnT ⟨8, S, D, N, M, A, I, J, U, F, C, Y, G, X, O, L⟩, rmT ⟨8, S, D, N, M, A, I, J, U, F, C, Y, G, X, O, L⟩, regT A false]) v w' ∧ Below w.heap.size w w' := by
  have HB := oneT_start ⟨8, S, D, N, M, A, I, J, U, F, C, Y, G, X, O, L⟩ w T
  go_enter Tryz.func26, Tryz.ntmps26
  repeat' (first | with_reducible refine then_exit ?_ | with_reducible refine then_normal ?_ | with_reducible refine inBlock_eq ?_ | with_reducible refine inBlock_ne rfl ?_ | with_reducible refine inBlock_normal ?_ | go_step)
  refine wp_region_rel Grows (fun x => OneT ⟨8, S, D, N, M, A, I, J, U, F, C, Y, G, X, O, L⟩ w x) [.inl (.pointer (some ⟨w.heap.size, 2, none⟩)), .inl (vI D), .inl (⟨8, S, D, N, M, A, I, J, U, F, C, Y, G, X, O, L⟩ : Ins).val, .inl (.bool (spD ⟨8, S, D, N, M, A, I, J, U, F, C, Y, G, X, O, L⟩)), .inl (strV (rdT ⟨8, S, D, N, M, A, I, J, U, F, C, Y, G, X, O, L⟩)), .inl (.pointer (some ⟨w.heap.size, 3, none⟩)), .inl (vI N), .inl (⟨8, S, D, N, M, A, I, J, U, F, C, Y, G, X, O, L⟩ : Ins).val, .inl (.bool (spN ⟨8, S, D, N, M, A, I, J, U, F, C, Y, G, X, O, L⟩)), .inl (strV (rnT ⟨8, S, D, N, M, A, I, J, U, F, C, Y, G, X, O, L⟩)), .inl (.pointer (some ⟨w.heap.size, 4, none⟩)), .inl (vI M), .inl (strV (rmT ⟨8, S, D, N, M, A, I, J, U, F, C, Y, G, X, O, L⟩)), .inl (strV (rdT ⟨8, S, D, N, M, A, I, J, U, F, C, Y, G, X, O, L⟩)), .inl (strV (rnT ⟨8, S, D, N, M, A, I, J, U, F, C, Y, G, X, O, L⟩)), .inl (strV (rmT ⟨8, S, D, N, M, A, I, J, U, F, C, Y, G, X, O, L⟩))] (by kernel_rfl) (by kernel_rfl) (OneT.up _ _) HB.drew (by simp [upK]) ?_
  refine ⟨fun w1 hC _ => by go_simp; exact Below.refl _ _, ?_⟩
  simp only [Act.put, List.setIfInBounds_toArray, List.set_cons_succ, List.set_cons_zero]
  refine ⟨fun w1 hC _ => by have hq := hC.one.at 2 _ rfl; go_simp; exact Below.refl _ _, ?_⟩
  simp only [Act.put, List.setIfInBounds_toArray, List.set_cons_succ, List.set_cons_zero]
  refine ⟨fun w1 hC _ => rel_load_row 23 _ rfl w.heap.size (by go_simp) 23 (⟨8, S, D, N, M, A, I, J, U, F, C, Y, G, X, O, L⟩ : Ins).cells (0, 0) _ hC.one.box Tryz.underlying23 rfl (by kernel_rfl), ?_⟩
  simp only [Act.put, List.setIfInBounds_toArray, List.set_cons_succ, List.set_cons_zero]
  refine ⟨fun w1 hC _ => ?_, ?_⟩
  · go_simp
    refine (stackRd_c ⟨8, S, D, N, M, A, I, J, U, F, C, Y, G, X, O, L⟩ w1).mono ?_
    rintro e w2 ⟨rfl, rfl⟩
    exact ⟨rfl, below_alloc _ _⟩
  simp only [Act.put, List.setIfInBounds_toArray, List.set_cons_succ, List.set_cons_zero]
  refine ⟨fun w1 hC _ => ?_, ?_⟩
  · go_simp
    refine (name_c D (spD ⟨8, S, D, N, M, A, I, J, U, F, C, Y, G, X, O, L⟩) hr.d0 hr.d1 w1 hC.tab).mono ?_
    rintro e w2 ⟨rfl, hb⟩
    exact ⟨rfl, hb⟩
  simp only [Act.put, List.setIfInBounds_toArray, List.set_cons_succ, List.set_cons_zero]
  refine ⟨fun w1 hC _ => by go_simp; exact Below.refl _ _, ?_⟩
  simp only [Act.put, List.setIfInBounds_toArray, List.set_cons_succ, List.set_cons_zero]
  refine ⟨fun w1 hC _ => by have hq := hC.one.at 3 _ rfl; go_simp; exact Below.refl _ _, ?_⟩
  simp only [Act.put, List.setIfInBounds_toArray, List.set_cons_succ, List.set_cons_zero]
  refine ⟨fun w1 hC _ => rel_load_row 23 _ rfl w.heap.size (by go_simp) 23 (⟨8, S, D, N, M, A, I, J, U, F, C, Y, G, X, O, L⟩ : Ins).cells (0, 0) _ hC.one.box Tryz.underlying23 rfl (by kernel_rfl), ?_⟩
  simp only [Act.put, List.setIfInBounds_toArray, List.set_cons_succ, List.set_cons_zero]
  refine ⟨fun w1 hC _ => ?_, ?_⟩
  · go_simp
    refine (stackRn_c ⟨8, S, D, N, M, A, I, J, U, F, C, Y, G, X, O, L⟩ w1).mono ?_
    rintro e w2 ⟨rfl, rfl⟩
    exact ⟨rfl, below_alloc _ _⟩
  simp only [Act.put, List.setIfInBounds_toArray, List.set_cons_succ, List.set_cons_zero]
  refine ⟨fun w1 hC _ => ?_, ?_⟩
  · go_simp
    refine (name_c N (spN ⟨8, S, D, N, M, A, I, J, U, F, C, Y, G, X, O, L⟩) hr.n0 hr.n1 w1 hC.tab).mono ?_
    rintro e w2 ⟨rfl, hb⟩
    exact ⟨rfl, hb⟩
  simp only [Act.put, List.setIfInBounds_toArray, List.set_cons_succ, List.set_cons_zero]
  refine ⟨fun w1 hC _ => by go_simp; exact Below.refl _ _, ?_⟩
  simp only [Act.put, List.setIfInBounds_toArray, List.set_cons_succ, List.set_cons_zero]
  refine ⟨fun w1 hC _ => by have hq := hC.one.at 4 _ rfl; go_simp; exact Below.refl _ _, ?_⟩
  simp only [Act.put, List.setIfInBounds_toArray, List.set_cons_succ, List.set_cons_zero]
  refine ⟨fun w1 hC _ => ?_, ?_⟩
  · go_simp
    refine (name_c M false hr.m0 hr.m1 w1 hC.tab).mono ?_
    rintro e w2 ⟨rfl, hb⟩
    exact ⟨rfl, hb⟩
  simp only [Act.put, List.setIfInBounds_toArray, List.set_cons_succ, List.set_cons_zero]
  refine ⟨fun w1 hC _ => by go_simp; exact Below.refl _ _, ?_⟩
  simp only [Act.put, List.setIfInBounds_toArray, List.set_cons_succ, List.set_cons_zero]
  refine ⟨fun w1 hC _ => by go_simp; exact Below.refl _ _, ?_⟩
  simp only [Act.put, List.setIfInBounds_toArray, List.set_cons_succ, List.set_cons_zero]
  refine ⟨fun w1 hC _ => by go_simp; exact Below.refl _ _, ?_⟩
  simp only [Act.put, List.setIfInBounds_toArray, List.set_cons_succ, List.set_cons_zero]
  clear HB
  intro w1 HB _
  have c0 := HB.one.at 0 _ rfl
  have c5 := HB.one.at 5 _ rfl
  repeat' (first | with_reducible refine then_exit ?_ | with_reducible refine then_normal ?_ | with_reducible refine inBlock_eq ?_ | with_reducible refine inBlock_ne rfl ?_ | with_reducible refine inBlock_normal ?_ | (go_at_call 51; refine (name_c A false hr.a0 hr.a1 _ HB.tab).mono ?_; rintro e w' ⟨rfl, hb⟩; dsimp only; replace HB := HB.grow hb; clear hb) | go_step)
  go_ret
  exact ⟨_, rfl, row_new _ [rdT ⟨8, S, D, N, M, A, I, J, U, F, C, Y, G, X, O, L⟩, rnT ⟨8, S, D, N, M, A, I, J, U, F, C, Y, G, X, O, L⟩, rmT ⟨8, S, D, N, M, A, I, J, U, F, C, Y, G, X, O, L⟩, regT A false] (by simp) _ HB.size, below_then HB.one.below (below_alloc _ _)⟩

set_option maxRecDepth 8000 in
set_option maxHeartbeats 8000000 in
theorem parts9 (S D N M A I J U F C Y : Int) (G X O L : Bool) (hr : InR ⟨9, S, D, N, M, A, I, J, U, F, C, Y, G, X, O, L⟩) (w : World) (T : Tab w) : Calls Tryz.prog 26 #[(⟨9, S, D, N, M, A, I, J, U, F, C, Y, G, X, O, L⟩ : Ins).val] w fun e w' => ∃ v, e = .returned v ∧ RowT w.heap.size ([rdT ⟨9, S, D, N, M, A, I, J, U, F, C, Y, G, X, O, L⟩, rnT ⟨9, S, D, N, M, A, I, J, U, F, C, Y, G, X, O, L⟩, rmT ⟨9, S, D, N, M, A, I, J, U, F, C, Y, G, X, O, L⟩]) v w' ∧ Below w.heap.size w w' := by
  have HB := oneT_start ⟨9, S, D, N, M, A, I, J, U, F, C, Y, G, X, O, L⟩ w T
  go_enter Tryz.func26, Tryz.ntmps26
  repeat' (first | with_reducible refine then_exit ?_ | with_reducible refine then_normal ?_ | with_reducible refine inBlock_eq ?_ | with_reducible refine inBlock_ne rfl ?_ | with_reducible refine inBlock_normal ?_ | go_step)
  refine wp_region_rel Grows (fun x => OneT ⟨9, S, D, N, M, A, I, J, U, F, C, Y, G, X, O, L⟩ w x) [.inl (.pointer (some ⟨w.heap.size, 2, none⟩)), .inl (vI D), .inl (⟨9, S, D, N, M, A, I, J, U, F, C, Y, G, X, O, L⟩ : Ins).val, .inl (.bool (spD ⟨9, S, D, N, M, A, I, J, U, F, C, Y, G, X, O, L⟩)), .inl (strV (rdT ⟨9, S, D, N, M, A, I, J, U, F, C, Y, G, X, O, L⟩)), .inl (.pointer (some ⟨w.heap.size, 3, none⟩)), .inl (vI N), .inl (⟨9, S, D, N, M, A, I, J, U, F, C, Y, G, X, O, L⟩ : Ins).val, .inl (.bool (spN ⟨9, S, D, N, M, A, I, J, U, F, C, Y, G, X, O, L⟩)), .inl (strV (rnT ⟨9, S, D, N, M, A, I, J, U, F, C, Y, G, X, O, L⟩)), .inl (.pointer (some ⟨w.heap.size, 4, none⟩)), .inl (vI M), .inl (strV (rmT ⟨9, S, D, N, M, A, I, J, U, F, C, Y, G, X, O, L⟩)), .inl (strV (rdT ⟨9, S, D, N, M, A, I, J, U, F, C, Y, G, X, O, L⟩)), .inl (strV (rnT ⟨9, S, D, N, M, A, I, J, U, F, C, Y, G, X, O, L⟩)), .inl (strV (rmT ⟨9, S, D, N, M, A, I, J, U, F, C, Y, G, X, O, L⟩))] (by kernel_rfl) (by kernel_rfl) (OneT.up _ _) HB.drew (by simp [upK]) ?_
  refine ⟨fun w1 hC _ => by go_simp; exact Below.refl _ _, ?_⟩
  simp only [Act.put, List.setIfInBounds_toArray, List.set_cons_succ, List.set_cons_zero]
  refine ⟨fun w1 hC _ => by have hq := hC.one.at 2 _ rfl; go_simp; exact Below.refl _ _, ?_⟩
  simp only [Act.put, List.setIfInBounds_toArray, List.set_cons_succ, List.set_cons_zero]
  refine ⟨fun w1 hC _ => rel_load_row 23 _ rfl w.heap.size (by go_simp) 23 (⟨9, S, D, N, M, A, I, J, U, F, C, Y, G, X, O, L⟩ : Ins).cells (0, 0) _ hC.one.box Tryz.underlying23 rfl (by kernel_rfl), ?_⟩
  simp only [Act.put, List.setIfInBounds_toArray, List.set_cons_succ, List.set_cons_zero]
  refine ⟨fun w1 hC _ => ?_, ?_⟩
  · go_simp
    refine (stackRd_c ⟨9, S, D, N, M, A, I, J, U, F, C, Y, G, X, O, L⟩ w1).mono ?_
    rintro e w2 ⟨rfl, rfl⟩
    exact ⟨rfl, below_alloc _ _⟩
  simp only [Act.put, List.setIfInBounds_toArray, List.set_cons_succ, List.set_cons_zero]
  refine ⟨fun w1 hC _ => ?_, ?_⟩
  · go_simp
    refine (name_c D (spD ⟨9, S, D, N, M, A, I, J, U, F, C, Y, G, X, O, L⟩) hr.d0 hr.d1 w1 hC.tab).mono ?_
    rintro e w2 ⟨rfl, hb⟩
    exact ⟨rfl, hb⟩
  simp only [Act.put, List.setIfInBounds_toArray, List.set_cons_succ, List.set_cons_zero]
  refine ⟨fun w1 hC _ => by go_simp; exact Below.refl _ _, ?_⟩
  simp only [Act.put, List.setIfInBounds_toArray, List.set_cons_succ, List.set_cons_zero]
  refine ⟨fun w1 hC _ => by have hq := hC.one.at 3 _ rfl; go_simp; exact Below.refl _ _, ?_⟩
  simp only [Act.put, List.setIfInBounds_toArray, List.set_cons_succ, List.set_cons_zero]
  refine ⟨fun w1 hC _ => rel_load_row 23 _ rfl w.heap.size (by go_simp) 23 (⟨9, S, D, N, M, A, I, J, U, F, C, Y, G, X, O, L⟩ : Ins).cells (0, 0) _ hC.one.box Tryz.underlying23 rfl (by kernel_rfl), ?_⟩
  simp only [Act.put, List.setIfInBounds_toArray, List.set_cons_succ, List.set_cons_zero]
  refine ⟨fun w1 hC _ => ?_, ?_⟩
  · go_simp
    refine (stackRn_c ⟨9, S, D, N, M, A, I, J, U, F, C, Y, G, X, O, L⟩ w1).mono ?_
    rintro e w2 ⟨rfl, rfl⟩
    exact ⟨rfl, below_alloc _ _⟩
  simp only [Act.put, List.setIfInBounds_toArray, List.set_cons_succ, List.set_cons_zero]
  refine ⟨fun w1 hC _ => ?_, ?_⟩
  · go_simp
    refine (name_c N (spN ⟨9, S, D, N, M, A, I, J, U, F, C, Y, G, X, O, L⟩) hr.n0 hr.n1 w1 hC.tab).mono ?_
    rintro e w2 ⟨rfl, hb⟩
    exact ⟨rfl, hb⟩
  simp only [Act.put, List.setIfInBounds_toArray, List.set_cons_succ, List.set_cons_zero]
  refine ⟨fun w1 hC _ => by go_simp; exact Below.refl _ _, ?_⟩
  simp only [Act.put, List.setIfInBounds_toArray, List.set_cons_succ, List.set_cons_zero]
  refine ⟨fun w1 hC _ => by have hq := hC.one.at 4 _ rfl; go_simp; exact Below.refl _ _, ?_⟩
  simp only [Act.put, List.setIfInBounds_toArray, List.set_cons_succ, List.set_cons_zero]
  refine ⟨fun w1 hC _ => ?_, ?_⟩
  · go_simp
    refine (name_c M false hr.m0 hr.m1 w1 hC.tab).mono ?_
    rintro e w2 ⟨rfl, hb⟩
    exact ⟨rfl, hb⟩
  simp only [Act.put, List.setIfInBounds_toArray, List.set_cons_succ, List.set_cons_zero]
  refine ⟨fun w1 hC _ => by go_simp; exact Below.refl _ _, ?_⟩
  simp only [Act.put, List.setIfInBounds_toArray, List.set_cons_succ, List.set_cons_zero]
  refine ⟨fun w1 hC _ => by go_simp; exact Below.refl _ _, ?_⟩
  simp only [Act.put, List.setIfInBounds_toArray, List.set_cons_succ, List.set_cons_zero]
  refine ⟨fun w1 hC _ => by go_simp; exact Below.refl _ _, ?_⟩
  simp only [Act.put, List.setIfInBounds_toArray, List.set_cons_succ, List.set_cons_zero]
  clear HB
  intro w1 HB _
  have c0 := HB.one.at 0 _ rfl
  repeat' (first | with_reducible refine then_exit ?_ | with_reducible refine then_normal ?_ | with_reducible refine inBlock_eq ?_ | with_reducible refine inBlock_ne rfl ?_ | with_reducible refine inBlock_normal ?_ | go_step)
  go_ret
  exact ⟨_, rfl, row_new _ [rdT ⟨9, S, D, N, M, A, I, J, U, F, C, Y, G, X, O, L⟩, rnT ⟨9, S, D, N, M, A, I, J, U, F, C, Y, G, X, O, L⟩, rmT ⟨9, S, D, N, M, A, I, J, U, F, C, Y, G, X, O, L⟩] (by simp) _ HB.size, below_then HB.one.below (below_alloc _ _)⟩

set_option maxRecDepth 8000 in
set_option maxHeartbeats 8000000 in
theorem parts10 (S D N M A I J U F C Y : Int) (G X O L : Bool) (hr : InR ⟨10, S, D, N, M, A, I, J, U, F, C, Y, G, X, O, L⟩) (c15 : 0 ≤ C ∧ C ≤ 15) (w : World) (T : Tab w) : Calls Tryz.prog 26 #[(⟨10, S, D, N, M, A, I, J, U, F, C, Y, G, X, O, L⟩ : Ins).val] w fun e w' => ∃ v, e = .returned v ∧ RowT w.heap.size ([rdT ⟨10, S, D, N, M, A, I, J, U, F, C, Y, G, X, O, L⟩, rnT ⟨10, S, D, N, M, A, I, J, U, F, C, Y, G, X, O, L⟩, rmT ⟨10, S, D, N, M, A, I, J, U, F, C, Y, G, X, O, L⟩, condT C]) v w' ∧ Below w.heap.size w w' := by
  have c15 : Hid (0 ≤ C ∧ C ≤ 15) := c15
  have HB := oneT_start ⟨10, S, D, N, M, A, I, J, U, F, C, Y, G, X, O, L⟩ w T
  go_enter Tryz.func26, Tryz.ntmps26
  repeat' (first | with_reducible refine then_exit ?_ | with_reducible refine then_normal ?_ | with_reducible refine inBlock_eq ?_ | with_reducible refine inBlock_ne rfl ?_ | with_reducible refine inBlock_normal ?_ | go_step)
  refine wp_region_rel Grows (fun x => OneT ⟨10, S, D, N, M, A, I, J, U, F, C, Y, G, X, O, L⟩ w x) [.inl (.pointer (some ⟨w.heap.size, 2, none⟩)), .inl (vI D), .inl (⟨10, S, D, N, M, A, I, J, U, F, C, Y, G, X, O, L⟩ : Ins).val, .inl (.bool (spD ⟨10, S, D, N, M, A, I, J, U, F, C, Y, G, X, O, L⟩)), .inl (strV (rdT ⟨10, S, D, N, M, A, I, J, U, F, C, Y, G, X, O, L⟩)), .inl (.pointer (some ⟨w.heap.size, 3, none⟩)), .inl (vI N), .inl (⟨10, S, D, N, M, A, I, J, U, F, C, Y, G, X, O, L⟩ : Ins).val, .inl (.bool (spN ⟨10, S, D, N, M, A, I, J, U, F, C, Y, G, X, O, L⟩)), .inl (strV (rnT ⟨10, S, D, N, M, A, I, J, U, F, C, Y, G, X, O, L⟩)), .inl (.pointer (some ⟨w.heap.size, 4, none⟩)), .inl (vI M), .inl (strV (rmT ⟨10, S, D, N, M, A, I, J, U, F, C, Y, G, X, O, L⟩)), .inl (strV (rdT ⟨10, S, D, N, M, A, I, J, U, F, C, Y, G, X, O, L⟩)), .inl (strV (rnT ⟨10, S, D, N, M, A, I, J, U, F, C, Y, G, X, O, L⟩)), .inl (strV (rmT ⟨10, S, D, N, M, A, I, J, U, F, C, Y, G, X, O, L⟩))] (by kernel_rfl) (by kernel_rfl) (OneT.up _ _) HB.drew (by simp [upK]) ?_
  refine ⟨fun w1 hC _ => by go_simp; exact Below.refl _ _, ?_⟩
  simp only [Act.put, List.setIfInBounds_toArray, List.set_cons_succ, List.set_cons_zero]
  refine ⟨fun w1 hC _ => by have hq := hC.one.at 2 _ rfl; go_simp; exact Below.refl _ _, ?_⟩
  simp only [Act.put, List.setIfInBounds_toArray, List.set_cons_succ, List.set_cons_zero]
  refine ⟨fun w1 hC _ => rel_load_row 23 _ rfl w.heap.size (by go_simp) 23 (⟨10, S, D, N, M, A, I, J, U, F, C, Y, G, X, O, L⟩ : Ins).cells (0, 0) _ hC.one.box Tryz.underlying23 rfl (by kernel_rfl), ?_⟩
  simp only [Act.put, List.setIfInBounds_toArray, List.set_cons_succ, List.set_cons_zero]
  refine ⟨fun w1 hC _ => ?_, ?_⟩
  · go_simp
    refine (stackRd_c ⟨10, S, D, N, M, A, I, J, U, F, C, Y, G, X, O, L⟩ w1).mono ?_
    rintro e w2 ⟨rfl, rfl⟩
    exact ⟨rfl, below_alloc _ _⟩
  simp only [Act.put, List.setIfInBounds_toArray, List.set_cons_succ, List.set_cons_zero]
  refine ⟨fun w1 hC _ => ?_, ?_⟩
  · go_simp
    refine (name_c D (spD ⟨10, S, D, N, M, A, I, J, U, F, C, Y, G, X, O, L⟩) hr.d0 hr.d1 w1 hC.tab).mono ?_
    rintro e w2 ⟨rfl, hb⟩
    exact ⟨rfl, hb⟩
  simp only [Act.put, List.setIfInBounds_toArray, List.set_cons_succ, List.set_cons_zero]
  refine ⟨fun w1 hC _ => by go_simp; exact Below.refl _ _, ?_⟩
  simp only [Act.put, List.setIfInBounds_toArray, List.set_cons_succ, List.set_cons_zero]
  refine ⟨fun w1 hC _ => by have hq := hC.one.at 3 _ rfl; go_simp; exact Below.refl _ _, ?_⟩
  simp only [Act.put, List.setIfInBounds_toArray, List.set_cons_succ, List.set_cons_zero]
  refine ⟨fun w1 hC _ => rel_load_row 23 _ rfl w.heap.size (by go_simp) 23 (⟨10, S, D, N, M, A, I, J, U, F, C, Y, G, X, O, L⟩ : Ins).cells (0, 0) _ hC.one.box Tryz.underlying23 rfl (by kernel_rfl), ?_⟩
  simp only [Act.put, List.setIfInBounds_toArray, List.set_cons_succ, List.set_cons_zero]
  refine ⟨fun w1 hC _ => ?_, ?_⟩
  · go_simp
    refine (stackRn_c ⟨10, S, D, N, M, A, I, J, U, F, C, Y, G, X, O, L⟩ w1).mono ?_
    rintro e w2 ⟨rfl, rfl⟩
    exact ⟨rfl, below_alloc _ _⟩
  simp only [Act.put, List.setIfInBounds_toArray, List.set_cons_succ, List.set_cons_zero]
  refine ⟨fun w1 hC _ => ?_, ?_⟩
  · go_simp
    refine (name_c N (spN ⟨10, S, D, N, M, A, I, J, U, F, C, Y, G, X, O, L⟩) hr.n0 hr.n1 w1 hC.tab).mono ?_
    rintro e w2 ⟨rfl, hb⟩
    exact ⟨rfl, hb⟩
  simp only [Act.put, List.setIfInBounds_toArray, List.set_cons_succ, List.set_cons_zero]
  refine ⟨fun w1 hC _ => by go_simp; exact Below.refl _ _, ?_⟩
  simp only [Act.put, List.setIfInBounds_toArray, List.set_cons_succ, List.set_cons_zero]
  refine ⟨fun w1 hC _ => by have hq := hC.one.at 4 _ rfl; go_simp; exact Below.refl _ _, ?_⟩
  simp only [Act.put, List.setIfInBounds_toArray, List.set_cons_succ, List.set_cons_zero]
  refine ⟨fun w1 hC _ => ?_, ?_⟩
  · go_simp
    refine (name_c M false hr.m0 hr.m1 w1 hC.tab).mono ?_
    rintro e w2 ⟨rfl, hb⟩
    exact ⟨rfl, hb⟩
  simp only [Act.put, List.setIfInBounds_toArray, List.set_cons_succ, List.set_cons_zero]
  refine ⟨fun w1 hC _ => by go_simp; exact Below.refl _ _, ?_⟩
  simp only [Act.put, List.setIfInBounds_toArray, List.set_cons_succ, List.set_cons_zero]
  refine ⟨fun w1 hC _ => by go_simp; exact Below.refl _ _, ?_⟩
  simp only [Act.put, List.setIfInBounds_toArray, List.set_cons_succ, List.set_cons_zero]
  refine ⟨fun w1 hC _ => by go_simp; exact Below.refl _ _, ?_⟩
  simp only [Act.put, List.setIfInBounds_toArray, List.set_cons_succ, List.set_cons_zero]
  clear HB
  intro w1 HB _
  have c0 := HB.one.at 0 _ rfl
  have c10 := HB.one.at 10 _ rfl
  repeat' (first | with_reducible refine then_exit ?_ | with_reducible refine then_normal ?_ | with_reducible refine inBlock_eq ?_ | with_reducible refine inBlock_ne rfl ?_ | with_reducible refine inBlock_normal ?_ | (go_at_call 57; refine (condition_c C c15.out.1 c15.out.2 _).mono ?_; rintro e w' ⟨rfl, hb⟩; dsimp only; replace HB := HB.grow hb; clear hb) | go_step)
  go_ret
  exact ⟨_, rfl, row_new _ [rdT ⟨10, S, D, N, M, A, I, J, U, F, C, Y, G, X, O, L⟩, rnT ⟨10, S, D, N, M, A, I, J, U, F, C, Y, G, X, O, L⟩, rmT ⟨10, S, D, N, M, A, I, J, U, F, C, Y, G, X, O, L⟩, condT C] (by simp) _ HB.size, below_then HB.one.below (below_alloc _ _)⟩

set_option maxRecDepth 8000 in
set_option maxHeartbeats 8000000 in
theorem parts16 (S D N M A I J U F C Y : Int) (G X O L : Bool) (hr : InR ⟨16, S, D, N, M, A, I, J, U, F, C, Y, G, X, O, L⟩) (w : World) (T : Tab w) : Calls Tryz.prog 26 #[(⟨16, S, D, N, M, A, I, J, U, F, C, Y, G, X, O, L⟩ : Ins).val] w fun e w' => ∃ v, e = .returned v ∧ RowT w.heap.size ([rnT ⟨16, S, D, N, M, A, I, J, U, F, C, Y, G, X, O, L⟩]) v w' ∧ Below w.heap.size w w' := by
  have HB := oneT_start ⟨16, S, D, N, M, A, I, J, U, F, C, Y, G, X, O, L⟩ w T
  go_enter Tryz.func26, Tryz.ntmps26
  repeat' (first | with_reducible refine then_exit ?_ | with_reducible refine then_normal ?_ | with_reducible refine inBlock_eq ?_ | with_reducible refine inBlock_ne rfl ?_ | with_reducible refine inBlock_normal ?_ | go_step)
  refine wp_region_rel Grows (fun x => OneT ⟨16, S, D, N, M, A, I, J, U, F, C, Y, G, X, O, L⟩ w x) [.inl (.pointer (some ⟨w.heap.size, 2, none⟩)), .inl (vI D), .inl (⟨16, S, D, N, M, A, I, J, U, F, C, Y, G, X, O, L⟩ : Ins).val, .inl (.bool (spD ⟨16, S, D, N, M, A, I, J, U, F, C, Y, G, X, O, L⟩)), .inl (strV (rdT ⟨16, S, D, N, M, A, I, J, U, F, C, Y, G, X, O, L⟩)), .inl (.pointer (some ⟨w.heap.size, 3, none⟩)), .inl (vI N), .inl (⟨16, S, D, N, M, A, I, J, U, F, C, Y, G, X, O, L⟩ : Ins).val, .inl (.bool (spN ⟨16, S, D, N, M, A, I, J, U, F, C, Y, G, X, O, L⟩)), .inl (strV (rnT ⟨16, S, D, N, M, A, I, J, U, F, C, Y, G, X, O, L⟩)), .inl (.pointer (some ⟨w.heap.size, 4, none⟩)), .inl (vI M), .inl (strV (rmT ⟨16, S, D, N, M, A, I, J, U, F, C, Y, G, X, O, L⟩)), .inl (strV (rdT ⟨16, S, D, N, M, A, I, J, U, F, C, Y, G, X, O, L⟩)), .inl (strV (rnT ⟨16, S, D, N, M, A, I, J, U, F, C, Y, G, X, O, L⟩)), .inl (strV (rmT ⟨16, S, D, N, M, A, I, J, U, F, C, Y, G, X, O, L⟩))] (by kernel_rfl) (by kernel_rfl) (OneT.up _ _) HB.drew (by simp [upK]) ?_
  refine ⟨fun w1 hC _ => by go_simp; exact Below.refl _ _, ?_⟩
  simp only [Act.put, List.setIfInBounds_toArray, List.set_cons_succ, List.set_cons_zero]
  refine ⟨fun w1 hC _ => by have hq := hC.one.at 2 _ rfl; go_simp; exact Below.refl _ _, ?_⟩
  simp only [Act.put, List.setIfInBounds_toArray, List.set_cons_succ, List.set_cons_zero]
  refine ⟨fun w1 hC _ => rel_load_row 23 _ rfl w.heap.size (by go_simp) 23 (⟨16, S, D, N, M, A, I, J, U, F, C, Y, G, X, O, L⟩ : Ins).cells (0, 0) _ hC.one.box Tryz.underlying23 rfl (by kernel_rfl), ?_⟩
  simp only [Act.put, List.setIfInBounds_toArray, List.set_cons_succ, List.set_cons_zero]
  refine ⟨fun w1 hC _ => ?_, ?_⟩
  · go_simp
    refine (stackRd_c ⟨16, S, D, N, M, A, I, J, U, F, C, Y, G, X, O, L⟩ w1).mono ?_
    rintro e w2 ⟨rfl, rfl⟩
    exact ⟨rfl, below_alloc _ _⟩
  simp only [Act.put, List.setIfInBounds_toArray, List.set_cons_succ, List.set_cons_zero]
  refine ⟨fun w1 hC _ => ?_, ?_⟩
  · go_simp
    refine (name_c D (spD ⟨16, S, D, N, M, A, I, J, U, F, C, Y, G, X, O, L⟩) hr.d0 hr.d1 w1 hC.tab).mono ?_
    rintro e w2 ⟨rfl, hb⟩
    exact ⟨rfl, hb⟩
  simp only [Act.put, List.setIfInBounds_toArray, List.set_cons_succ, List.set_cons_zero]
  refine ⟨fun w1 hC _ => by go_simp; exact Below.refl _ _, ?_⟩
  simp only [Act.put, List.setIfInBounds_toArray, List.set_cons_succ, List.set_cons_zero]
  refine ⟨fun w1 hC _ => by have hq := hC.one.at 3 _ rfl; go_simp; exact Below.refl _ _, ?_⟩
  simp only [Act.put, List.setIfInBounds_toArray, List.set_cons_succ, List.set_cons_zero]
  refine ⟨fun w1 hC _ => rel_load_row 23 _ rfl w.heap.size (by go_simp) 23 (⟨16, S, D, N, M, A, I, J, U, F, C, Y, G, X, O, L⟩ : Ins).cells (0, 0) _ hC.one.box Tryz.underlying23 rfl (by kernel_rfl), ?_⟩
  simp only [Act.put, List.setIfInBounds_toArray, List.set_cons_succ, List.set_cons_zero]
  refine ⟨fun w1 hC _ => ?_, ?_⟩
  · go_simp
    refine (stackRn_c ⟨16, S, D, N, M, A, I, J, U, F, C, Y, G, X, O, L⟩ w1).mono ?_
    rintro e w2 ⟨rfl, rfl⟩
    exact ⟨rfl, below_alloc _ _⟩
  simp only [Act.put, List.setIfInBounds_toArray, List.set_cons_succ, List.set_cons_zero]
  refine ⟨fun w1 hC _ => ?_, ?_⟩
  · go_simp
    refine (name_c N (spN ⟨16, S, D, N, M, A, I, J, U, F, C, Y, G, X, O, L⟩) hr.n0 hr.n1 w1 hC.tab).mono ?_
    rintro e w2 ⟨rfl, hb⟩
    exact ⟨rfl, hb⟩
  simp only [Act.put, List.setIfInBounds_toArray, List.set_cons_succ, List.set_cons_zero]
  refine ⟨fun w1 hC _ => by go_simp; exact Below.refl _ _, ?_⟩
  simp only [Act.put, List.setIfInBounds_toArray, List.set_cons_succ, List.set_cons_zero]
  refine ⟨fun w1 hC _ => by have hq := hC.one.at 4 _ rfl; go_simp; exact Below.refl _ _, ?_⟩
  simp only [Act.put, List.setIfInBounds_toArray, List.set_cons_succ, List.set_cons_zero]
  refine ⟨fun w1 hC _ => ?_, ?_⟩
  · go_simp
    refine (name_c M false hr.m0 hr.m1 w1 hC.tab).mono ?_
    rintro e w2 ⟨rfl, hb⟩
    exact ⟨rfl, hb⟩
  simp only [Act.put, List.setIfInBounds_toArray, List.set_cons_succ, List.set_cons_zero]
  refine ⟨fun w1 hC _ => by go_simp; exact Below.refl _ _, ?_⟩
  simp only [Act.put, List.setIfInBounds_toArray, List.set_cons_succ, List.set_cons_zero]
  refine ⟨fun w1 hC _ => by go_simp; exact Below.refl _ _, ?_⟩
  simp only [Act.put, List.setIfInBounds_toArray, List.set_cons_succ, List.set_cons_zero]
  refine ⟨fun w1 hC _ => by go_simp; exact Below.refl _ _, ?_⟩
  simp only [Act.put, List.setIfInBounds_toArray, List.set_cons_succ, List.set_cons_zero]
  clear HB
  intro w1 HB _
  have c0 := HB.one.at 0 _ rfl
  repeat' (first | with_reducible refine then_exit ?_ | with_reducible refine then_normal ?_ | with_reducible refine inBlock_eq ?_ | with_reducible refine inBlock_ne rfl ?_ | with_reducible refine inBlock_normal ?_ | go_step)
  go_ret
  exact ⟨_, rfl, row_new _ [rnT ⟨16, S, D, N, M, A, I, J, U, F, C, Y, G, X, O, L⟩] (by simp) _ HB.size, below_then HB.one.below (below_alloc _ _)⟩
end Go.Proofs.YtjmdgfimmjodjaaGreatDoor
