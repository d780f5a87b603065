/- The parts of an instruction of the first five Ops: contracts. -/
import Derived.Test.YtjmdgfimmjodjaaGreatDoorV26
namespace Go.Proofs.YtjmdgfimmjodjaaGreatDoor
open Go.RowKit Go.Rel

set_option maxRecDepth 8000 in
set_option maxHeartbeats 8000000 in
theorem parts1 (S D N M A I J U F C Y : Int) (G X O L : Bool) (hr : InR ⟨1, S, D, N, M, A, I, J, U, F, C, Y, G, X, O, L⟩) (HN : Num ⟨1, S, D, N, M, A, I, J, U, F, C, Y, G, X, O, L⟩) (w : World) (T : Tab w) : Calls Tryz.prog 26 #[(⟨1, S, D, N, M, A, I, J, U, F, C, Y, G, X, O, L⟩ : Ins).val] w fun e w' => ∃ v, e = .returned v ∧ RowT w.heap.size ([rdT ⟨1, S, D, N, M, A, I, J, U, F, C, Y, G, X, O, L⟩, rnT ⟨1, S, D, N, M, A, I, J, U, F, C, Y, G, X, O, L⟩, numT I] ++ shiftedT 0 U) v w' ∧ Below w.heap.size w w' := by
  have HB := oneT_start ⟨1, S, D, N, M, A, I, J, U, F, C, Y, G, X, O, L⟩ w T
  go_enter Tryz.func26, Tryz.ntmps26
  repeat' (first | with_reducible refine then_exit ?_ | with_reducible refine then_normal ?_ | with_reducible refine inBlock_eq ?_ | with_reducible refine inBlock_ne rfl ?_ | with_reducible refine inBlock_normal ?_ | go_step)
  refine wp_region_rel Grows (fun x => OneT ⟨1, S, D, N, M, A, I, J, U, F, C, Y, G, X, O, L⟩ w x) [.inl (.pointer (some ⟨w.heap.size, 2, none⟩)), .inl (vI D), .inl (⟨1, S, D, N, M, A, I, J, U, F, C, Y, G, X, O, L⟩ : Ins).val, .inl (.bool (spD ⟨1, S, D, N, M, A, I, J, U, F, C, Y, G, X, O, L⟩)), .inl (strV (rdT ⟨1, S, D, N, M, A, I, J, U, F, C, Y, G, X, O, L⟩)), .inl (.pointer (some ⟨w.heap.size, 3, none⟩)), .inl (vI N), .inl (⟨1, S, D, N, M, A, I, J, U, F, C, Y, G, X, O, L⟩ : Ins).val, .inl (.bool (spN ⟨1, S, D, N, M, A, I, J, U, F, C, Y, G, X, O, L⟩)), .inl (strV (rnT ⟨1, S, D, N, M, A, I, J, U, F, C, Y, G, X, O, L⟩)), .inl (.pointer (some ⟨w.heap.size, 4, none⟩)), .inl (vI M), .inl (strV (rmT ⟨1, S, D, N, M, A, I, J, U, F, C, Y, G, X, O, L⟩)), .inl (strV (rdT ⟨1, S, D, N, M, A, I, J, U, F, C, Y, G, X, O, L⟩)), .inl (strV (rnT ⟨1, S, D, N, M, A, I, J, U, F, C, Y, G, X, O, L⟩)), .inl (strV (rmT ⟨1, S, D, N, M, A, I, J, U, F, C, Y, G, X, O, L⟩))] (by kernel_rfl) (by kernel_rfl) (OneT.up _ _) HB.drew (by simp [upK]) ?_
  refine ⟨fun w1 hC _ => by go_simp; exact Below.refl _ _, ?_⟩
  simp only [Act.put, List.setIfInBounds_toArray, List.set_cons_succ, List.set_cons_zero]
  refine ⟨fun w1 hC _ => by have hq := hC.one.at 2 _ rfl; go_simp; exact Below.refl _ _, ?_⟩
  simp only [Act.put, List.setIfInBounds_toArray, List.set_cons_succ, List.set_cons_zero]
  refine ⟨fun w1 hC _ => rel_load_row 23 _ rfl w.heap.size (by go_simp) 23 (⟨1, S, D, N, M, A, I, J, U, F, C, Y, G, X, O, L⟩ : Ins).cells (0, 0) _ hC.one.box Tryz.underlying23 rfl (by kernel_rfl), ?_⟩
  simp only [Act.put, List.setIfInBounds_toArray, List.set_cons_succ, List.set_cons_zero]
  refine ⟨fun w1 hC _ => ?_, ?_⟩
  · go_simp
    refine (stackRd_c ⟨1, S, D, N, M, A, I, J, U, F, C, Y, G, X, O, L⟩ w1).mono ?_
    rintro e w2 ⟨rfl, rfl⟩
    exact ⟨rfl, below_alloc _ _⟩
  simp only [Act.put, List.setIfInBounds_toArray, List.set_cons_succ, List.set_cons_zero]
  refine ⟨fun w1 hC _ => ?_, ?_⟩
  · go_simp
    refine (name_c D (spD ⟨1, S, D, N, M, A, I, J, U, F, C, Y, G, X, O, L⟩) hr.d0 hr.d1 w1 hC.tab).mono ?_
    rintro e w2 ⟨rfl, hb⟩
    exact ⟨rfl, hb⟩
  simp only [Act.put, List.setIfInBounds_toArray, List.set_cons_succ, List.set_cons_zero]
  refine ⟨fun w1 hC _ => by go_simp; exact Below.refl _ _, ?_⟩
  simp only [Act.put, List.setIfInBounds_toArray, List.set_cons_succ, List.set_cons_zero]
  refine ⟨fun w1 hC _ => by have hq := hC.one.at 3 _ rfl; go_simp; exact Below.refl _ _, ?_⟩
  simp only [Act.put, List.setIfInBounds_toArray, List.set_cons_succ, List.set_cons_zero]
  refine ⟨fun w1 hC _ => rel_load_row 23 _ rfl w.heap.size (by go_simp) 23 (⟨1, S, D, N, M, A, I, J, U, F, C, Y, G, X, O, L⟩ : Ins).cells (0, 0) _ hC.one.box Tryz.underlying23 rfl (by kernel_rfl), ?_⟩
  simp only [Act.put, List.setIfInBounds_toArray, List.set_cons_succ, List.set_cons_zero]
  refine ⟨fun w1 hC _ => ?_, ?_⟩
  · go_simp
    refine (stackRn_c ⟨1, S, D, N, M, A, I, J, U, F, C, Y, G, X, O, L⟩ w1).mono ?_
    rintro e w2 ⟨rfl, rfl⟩
    exact ⟨rfl, below_alloc _ _⟩
  simp only [Act.put, List.setIfInBounds_toArray, List.set_cons_succ, List.set_cons_zero]
  refine ⟨fun w1 hC _ => ?_, ?_⟩
  · go_simp
    refine (name_c N (spN ⟨1, S, D, N, M, A, I, J, U, F, C, Y, G, X, O, L⟩) hr.n0 hr.n1 w1 hC.tab).mono ?_
    rintro e w2 ⟨rfl, hb⟩
    exact ⟨rfl, hb⟩
  simp only [Act.put, List.setIfInBounds_toArray, List.set_cons_succ, List.set_cons_zero]
  refine ⟨fun w1 hC _ => by go_simp; exact Below.refl _ _, ?_⟩
  simp only [Act.put, List.setIfInBounds_toArray, List.set_cons_succ, List.set_cons_zero]
  refine ⟨fun w1 hC _ => by have hq := hC.one.at 4 _ rfl; go_simp; exact Below.refl _ _, ?_⟩
  simp only [Act.put, List.setIfInBounds_toArray, List.set_cons_succ, List.set_cons_zero]
  refine ⟨fun w1 hC _ => ?_, ?_⟩
  · go_simp
    refine (name_c M false hr.m0 hr.m1 w1 hC.tab).mono ?_
    rintro e w2 ⟨rfl, hb⟩
    exact ⟨rfl, hb⟩
  simp only [Act.put, List.setIfInBounds_toArray, List.set_cons_succ, List.set_cons_zero]
  refine ⟨fun w1 hC _ => by go_simp; exact Below.refl _ _, ?_⟩
  simp only [Act.put, List.setIfInBounds_toArray, List.set_cons_succ, List.set_cons_zero]
  refine ⟨fun w1 hC _ => by go_simp; exact Below.refl _ _, ?_⟩
  simp only [Act.put, List.setIfInBounds_toArray, List.set_cons_succ, List.set_cons_zero]
  refine ⟨fun w1 hC _ => by go_simp; exact Below.refl _ _, ?_⟩
  simp only [Act.put, List.setIfInBounds_toArray, List.set_cons_succ, List.set_cons_zero]
  clear HB
  intro w1 HB _
  have c0 := HB.one.at 0 _ rfl
  repeat' (first | with_reducible refine then_exit ?_ | with_reducible refine then_normal ?_ | with_reducible refine inBlock_eq ?_ | with_reducible refine inBlock_ne rfl ?_ | with_reducible refine inBlock_normal ?_ | go_step)
  clear c0
  refine wp_region_tail 9 Grows (fun x => OneT ⟨1, S, D, N, M, A, I, J, U, F, C, Y, G, X, O, L⟩ w x) [.inl (strV (rdT ⟨1, S, D, N, M, A, I, J, U, F, C, Y, G, X, O, L⟩)), .inl (strV (rnT ⟨1, S, D, N, M, A, I, J, U, F, C, Y, G, X, O, L⟩)), .inl (.pointer (some ⟨w.heap.size, 6, none⟩)), .inl (vI I), .inl (strV (numT I)), .inr (RowT w.heap.size [rdT ⟨1, S, D, N, M, A, I, J, U, F, C, Y, G, X, O, L⟩, rnT ⟨1, S, D, N, M, A, I, J, U, F, C, Y, G, X, O, L⟩, numT I]), .inl (.pointer (some ⟨w.heap.size, 8, none⟩)), .inl (vI U), .inr (RowT w.heap.size (shiftedT 0 U))] (by kernel_rfl) (by kernel_rfl) (OneT.up _ _) HB.drew (by simp only [List.mem_cons, List.not_mem_nil, or_false]; rintro k hk; rcases hk with rfl | rfl | rfl | rfl | rfl | rfl | rfl | rfl | rfl <;> first | trivial | exact fun v => row_up _ _ v) ?_
  refine ⟨fun w1 hC _ => by go_simp; exact Below.refl _ _, ?_⟩
  simp only [Act.put, List.setIfInBounds_toArray, List.set_cons_succ, List.set_cons_zero]
  refine ⟨fun w1 hC _ => by go_simp; exact Below.refl _ _, ?_⟩
  simp only [Act.put, List.setIfInBounds_toArray, List.set_cons_succ, List.set_cons_zero]
  refine ⟨fun w1 hC _ => by go_simp; exact Below.refl _ _, ?_⟩
  simp only [Act.put, List.setIfInBounds_toArray, List.set_cons_succ, List.set_cons_zero]
  refine ⟨fun w1 hC _ => by have hq := hC.one.at 6 _ rfl; go_simp; exact Below.refl _ _, ?_⟩
  simp only [Act.put, List.setIfInBounds_toArray, List.set_cons_succ, List.set_cons_zero]
  refine ⟨fun w1 hC _ => ?_, ?_⟩
  · go_simp
    refine (number_c I HN.i0 HN.i1 w1 hC.tab).mono ?_
    rintro e w2 ⟨rfl, hb⟩
    exact ⟨rfl, hb⟩
  simp only [Act.put, List.setIfInBounds_toArray, List.set_cons_succ, List.set_cons_zero]
  refine ⟨fun w1 hC _ => ?_, fun v1 => ?_⟩
  · go_simp
    exact ⟨below_alloc _ _, row_new w1 [rdT ⟨1, S, D, N, M, A, I, J, U, F, C, Y, G, X, O, L⟩, rnT ⟨1, S, D, N, M, A, I, J, U, F, C, Y, G, X, O, L⟩, numT I] (by simp) _ hC.size⟩
  simp only [Act.put, List.setIfInBounds_toArray, List.set_cons_succ, List.set_cons_zero]
  refine ⟨fun w1 hC _ => by go_simp; exact Below.refl _ _, ?_⟩
  simp only [Act.put, List.setIfInBounds_toArray, List.set_cons_succ, List.set_cons_zero]
  refine ⟨fun w1 hC _ => by have hq := hC.one.at 8 _ rfl; go_simp; exact Below.refl _ _, ?_⟩
  simp only [Act.put, List.setIfInBounds_toArray, List.set_cons_succ, List.set_cons_zero]
  refine ⟨fun w1 hC _ => ?_, fun v2 => ?_⟩
  · go_simp
    refine (shifted_c 0 U (by decide) (by decide) HN.k0 HN.k1 w1 hC.tab).mono ?_
    rintro e w2 ⟨v, rfl, hrow, hb⟩
    exact ⟨_, rfl, hb, own_mono hrow hC.size⟩
  simp only [Act.put, List.setIfInBounds_toArray, List.set_cons_succ, List.set_cons_zero]
  clear HB
  intro w1 HB hF
  have hrow1 := (hF 5).2.1 rfl
  have hrow2 := (hF 8).1 rfl
  simp only [List.drop_succ_cons, List.drop_zero]
  refine wpList_append_rows rfl _ _ rfl w [rdT ⟨1, S, D, N, M, A, I, J, U, F, C, Y, G, X, O, L⟩, rnT ⟨1, S, D, N, M, A, I, J, U, F, C, Y, G, X, O, L⟩, numT I] (shiftedT 0 U) _ _ rfl rfl hrow1 hrow2 HB.one.below (by unfold shiftedT; cases ((0 : Int) == 0 && U == 0) <;> simp) ?_
  intro v' w2 hv' hb'
  simp only [Act.put, List.setIfInBounds_toArray, List.set_cons_succ, List.set_cons_zero]
  repeat' (first | with_reducible refine then_exit ?_ | with_reducible refine then_normal ?_ | with_reducible refine inBlock_eq ?_ | with_reducible refine inBlock_ne rfl ?_ | with_reducible refine inBlock_normal ?_ | go_step)
  go_ret
  exact ⟨_, rfl, hv', hb'⟩

set_option maxRecDepth 8000 in
set_option maxHeartbeats 8000000 in
theorem parts2 (S D N M A I J U F C Y : Int) (G X O L : Bool) (hr : InR ⟨2, S, D, N, M, A, I, J, U, F, C, Y, G, X, O, L⟩) (HN : Num ⟨2, S, D, N, M, A, I, J, U, F, C, Y, G, X, O, L⟩) (t3 : 0 ≤ F ∧ F ≤ 3) (w : World) (T : Tab w) : Calls Tryz.prog 26 #[(⟨2, S, D, N, M, A, I, J, U, F, C, Y, G, X, O, L⟩ : Ins).val] w fun e w' => ∃ v, e = .returned v ∧ RowT w.heap.size ([rdT ⟨2, S, D, N, M, A, I, J, U, F, C, Y, G, X, O, L⟩, rnT ⟨2, S, D, N, M, A, I, J, U, F, C, Y, G, X, O, L⟩, rmT ⟨2, S, D, N, M, A, I, J, U, F, C, Y, G, X, O, L⟩] ++ shiftedT F U) v w' ∧ Below w.heap.size w w' := by
  have t3 : Hid (0 ≤ F ∧ F ≤ 3) := t3
  have HB := oneT_start ⟨2, S, D, N, M, A, I, J, U, F, C, Y, G, X, O, L⟩ w T
  go_enter Tryz.func26, Tryz.ntmps26
  repeat' (first | with_reducible refine then_exit ?_ | with_reducible refine then_normal ?_ | with_reducible refine inBlock_eq ?_ | with_reducible refine inBlock_ne rfl ?_ | with_reducible refine inBlock_normal ?_ | go_step)
  refine wp_region_rel Grows (fun x => OneT ⟨2, S, D, N, M, A, I, J, U, F, C, Y, G, X, O, L⟩ w x) [.inl (.pointer (some ⟨w.heap.size, 2, none⟩)), .inl (vI D), .inl (⟨2, S, D, N, M, A, I, J, U, F, C, Y, G, X, O, L⟩ : Ins).val, .inl (.bool (spD ⟨2, S, D, N, M, A, I, J, U, F, C, Y, G, X, O, L⟩)), .inl (strV (rdT ⟨2, S, D, N, M, A, I, J, U, F, C, Y, G, X, O, L⟩)), .inl (.pointer (some ⟨w.heap.size, 3, none⟩)), .inl (vI N), .inl (⟨2, S, D, N, M, A, I, J, U, F, C, Y, G, X, O, L⟩ : Ins).val, .inl (.bool (spN ⟨2, S, D, N, M, A, I, J, U, F, C, Y, G, X, O, L⟩)), .inl (strV (rnT ⟨2, S, D, N, M, A, I, J, U, F, C, Y, G, X, O, L⟩)), .inl (.pointer (some ⟨w.heap.size, 4, none⟩)), .inl (vI M), .inl (strV (rmT ⟨2, S, D, N, M, A, I, J, U, F, C, Y, G, X, O, L⟩)), .inl (strV (rdT ⟨2, S, D, N, M, A, I, J, U, F, C, Y, G, X, O, L⟩)), .inl (strV (rnT ⟨2, S, D, N, M, A, I, J, U, F, C, Y, G, X, O, L⟩)), .inl (strV (rmT ⟨2, S, D, N, M, A, I, J, U, F, C, Y, G, X, O, L⟩))] (by kernel_rfl) (by kernel_rfl) (OneT.up _ _) HB.drew (by simp [upK]) ?_
  refine ⟨fun w1 hC _ => by go_simp; exact Below.refl _ _, ?_⟩
  simp only [Act.put, List.setIfInBounds_toArray, List.set_cons_succ, List.set_cons_zero]
  refine ⟨fun w1 hC _ => by have hq := hC.one.at 2 _ rfl; go_simp; exact Below.refl _ _, ?_⟩
  simp only [Act.put, List.setIfInBounds_toArray, List.set_cons_succ, List.set_cons_zero]
  refine ⟨fun w1 hC _ => rel_load_row 23 _ rfl w.heap.size (by go_simp) 23 (⟨2, S, D, N, M, A, I, J, U, F, C, Y, G, X, O, L⟩ : Ins).cells (0, 0) _ hC.one.box Tryz.underlying23 rfl (by kernel_rfl), ?_⟩
  simp only [Act.put, List.setIfInBounds_toArray, List.set_cons_succ, List.set_cons_zero]
  refine ⟨fun w1 hC _ => ?_, ?_⟩
  · go_simp
    refine (stackRd_c ⟨2, S, D, N, M, A, I, J, U, F, C, Y, G, X, O, L⟩ w1).mono ?_
    rintro e w2 ⟨rfl, rfl⟩
    exact ⟨rfl, below_alloc _ _⟩
  simp only [Act.put, List.setIfInBounds_toArray, List.set_cons_succ, List.set_cons_zero]
  refine ⟨fun w1 hC _ => ?_, ?_⟩
  · go_simp
    refine (name_c D (spD ⟨2, S, D, N, M, A, I, J, U, F, C, Y, G, X, O, L⟩) hr.d0 hr.d1 w1 hC.tab).mono ?_
    rintro e w2 ⟨rfl, hb⟩
    exact ⟨rfl, hb⟩
  simp only [Act.put, List.setIfInBounds_toArray, List.set_cons_succ, List.set_cons_zero]
  refine ⟨fun w1 hC _ => by go_simp; exact Below.refl _ _, ?_⟩
  simp only [Act.put, List.setIfInBounds_toArray, List.set_cons_succ, List.set_cons_zero]
  refine ⟨fun w1 hC _ => by have hq := hC.one.at 3 _ rfl; go_simp; exact Below.refl _ _, ?_⟩
  simp only [Act.put, List.setIfInBounds_toArray, List.set_cons_succ, List.set_cons_zero]
  refine ⟨fun w1 hC _ => rel_load_row 23 _ rfl w.heap.size (by go_simp) 23 (⟨2, S, D, N, M, A, I, J, U, F, C, Y, G, X, O, L⟩ : Ins).cells (0, 0) _ hC.one.box Tryz.underlying23 rfl (by kernel_rfl), ?_⟩
  simp only [Act.put, List.setIfInBounds_toArray, List.set_cons_succ, List.set_cons_zero]
  refine ⟨fun w1 hC _ => ?_, ?_⟩
  · go_simp
    refine (stackRn_c ⟨2, S, D, N, M, A, I, J, U, F, C, Y, G, X, O, L⟩ w1).mono ?_
    rintro e w2 ⟨rfl, rfl⟩
    exact ⟨rfl, below_alloc _ _⟩
  simp only [Act.put, List.setIfInBounds_toArray, List.set_cons_succ, List.set_cons_zero]
  refine ⟨fun w1 hC _ => ?_, ?_⟩
  · go_simp
    refine (name_c N (spN ⟨2, S, D, N, M, A, I, J, U, F, C, Y, G, X, O, L⟩) hr.n0 hr.n1 w1 hC.tab).mono ?_
    rintro e w2 ⟨rfl, hb⟩
    exact ⟨rfl, hb⟩
  simp only [Act.put, List.setIfInBounds_toArray, List.set_cons_succ, List.set_cons_zero]
  refine ⟨fun w1 hC _ => by go_simp; exact Below.refl _ _, ?_⟩
  simp only [Act.put, List.setIfInBounds_toArray, List.set_cons_succ, List.set_cons_zero]
  refine ⟨fun w1 hC _ => by have hq := hC.one.at 4 _ rfl; go_simp; exact Below.refl _ _, ?_⟩
  simp only [Act.put, List.setIfInBounds_toArray, List.set_cons_succ, List.set_cons_zero]
  refine ⟨fun w1 hC _ => ?_, ?_⟩
  · go_simp
    refine (name_c M false hr.m0 hr.m1 w1 hC.tab).mono ?_
    rintro e w2 ⟨rfl, hb⟩
    exact ⟨rfl, hb⟩
  simp only [Act.put, List.setIfInBounds_toArray, List.set_cons_succ, List.set_cons_zero]
  refine ⟨fun w1 hC _ => by go_simp; exact Below.refl _ _, ?_⟩
  simp only [Act.put, List.setIfInBounds_toArray, List.set_cons_succ, List.set_cons_zero]
  refine ⟨fun w1 hC _ => by go_simp; exact Below.refl _ _, ?_⟩
  simp only [Act.put, List.setIfInBounds_toArray, List.set_cons_succ, List.set_cons_zero]
  refine ⟨fun w1 hC _ => by go_simp; exact Below.refl _ _, ?_⟩
  simp only [Act.put, List.setIfInBounds_toArray, List.set_cons_succ, List.set_cons_zero]
  clear HB
  intro w1 HB _
  have c0 := HB.one.at 0 _ rfl
  have c8 : ∀ o, (w1.alloc o).cell? ⟨w.heap.size, 8, none⟩ = some (vI U) := fun o => (HB.grow (below_alloc _ o)).one.at 8 _ rfl
  have c9 : ∀ o, (w1.alloc o).cell? ⟨w.heap.size, 9, none⟩ = some (vI F) := fun o => (HB.grow (below_alloc _ o)).one.at 9 _ rfl
  repeat' (first | with_reducible refine then_exit ?_ | with_reducible refine then_normal ?_ | with_reducible refine inBlock_eq ?_ | with_reducible refine inBlock_ne rfl ?_ | with_reducible refine inBlock_normal ?_ | (go_at_call 55; refine (shifted_c F U t3.out.1 t3.out.2 HN.k0 HN.k1 _ (HB.tab.grow (below_alloc _ _))).mono ?_; rintro e w' ⟨v2, rfl, hrow, hb⟩; dsimp only) | (at_builtin; refine wpList_append_rows (by rfl) _ _ (by rfl) w [rdT ⟨2, S, D, N, M, A, I, J, U, F, C, Y, G, X, O, L⟩, rnT ⟨2, S, D, N, M, A, I, J, U, F, C, Y, G, X, O, L⟩, rmT ⟨2, S, D, N, M, A, I, J, U, F, C, Y, G, X, O, L⟩] (shiftedT F U) (.slice (some ⟨w1.heap.size, 0, none⟩) 3 3) v2 (by rfl) (by rfl) (own_grow (row_new _ [rdT ⟨2, S, D, N, M, A, I, J, U, F, C, Y, G, X, O, L⟩, rnT ⟨2, S, D, N, M, A, I, J, U, F, C, Y, G, X, O, L⟩, rmT ⟨2, S, D, N, M, A, I, J, U, F, C, Y, G, X, O, L⟩] (by simp) _ HB.size) hb) (own_mono hrow (Nat.le_trans HB.size (below_alloc _ _).size)) (below_then (below_then HB.one.below (below_alloc _ _)) hb) (by unfold shiftedT; cases (F == 0 && U == 0) <;> simp) ?_; intro v' w2 hv' hb'; simp only [Act.put, List.setIfInBounds_toArray, List.set_cons_succ, List.set_cons_zero]) | go_step)
  go_ret
  exact ⟨_, rfl, hv', hb'⟩

set_option maxRecDepth 8000 in
set_option maxHeartbeats 8000000 in
theorem parts3 (S D N M A I J U F C Y : Int) (G X O L : Bool) (hr : InR ⟨3, S, D, N, M, A, I, J, U, F, C, Y, G, X, O, L⟩) (HN : Num ⟨3, S, D, N, M, A, I, J, U, F, C, Y, G, X, O, L⟩) (t3 : 0 ≤ F ∧ F ≤ 3) (w : World) (T : Tab w) : Calls Tryz.prog 26 #[(⟨3, S, D, N, M, A, I, J, U, F, C, Y, G, X, O, L⟩ : Ins).val] w fun e w' => ∃ v, e = .returned v ∧ RowT w.heap.size ([rdT ⟨3, S, D, N, M, A, I, J, U, F, C, Y, G, X, O, L⟩, rnT ⟨3, S, D, N, M, A, I, J, U, F, C, Y, G, X, O, L⟩, rmT ⟨3, S, D, N, M, A, I, J, U, F, C, Y, G, X, O, L⟩] ++ shiftedT F U) v w' ∧ Below w.heap.size w w' := by
  have t3 : Hid (0 ≤ F ∧ F ≤ 3) := t3
  have HB := oneT_start ⟨3, S, D, N, M, A, I, J, U, F, C, Y, G, X, O, L⟩ w T
  go_enter Tryz.func26, Tryz.ntmps26
  repeat' (first | with_reducible refine then_exit ?_ | with_reducible refine then_normal ?_ | with_reducible refine inBlock_eq ?_ | with_reducible refine inBlock_ne rfl ?_ | with_reducible refine inBlock_normal ?_ | go_step)
  refine wp_region_rel Grows (fun x => OneT ⟨3, S, D, N, M, A, I, J, U, F, C, Y, G, X, O, L⟩ w x) [.inl (.pointer (some ⟨w.heap.size, 2, none⟩)), .inl (vI D), .inl (⟨3, S, D, N, M, A, I, J, U, F, C, Y, G, X, O, L⟩ : Ins).val, .inl (.bool (spD ⟨3, S, D, N, M, A, I, J, U, F, C, Y, G, X, O, L⟩)), .inl (strV (rdT ⟨3, S, D, N, M, A, I, J, U, F, C, Y, G, X, O, L⟩)), .inl (.pointer (some ⟨w.heap.size, 3, none⟩)), .inl (vI N), .inl (⟨3, S, D, N, M, A, I, J, U, F, C, Y, G, X, O, L⟩ : Ins).val, .inl (.bool (spN ⟨3, S, D, N, M, A, I, J, U, F, C, Y, G, X, O, L⟩)), .inl (strV (rnT ⟨3, S, D, N, M, A, I, J, U, F, C, Y, G, X, O, L⟩)), .inl (.pointer (some ⟨w.heap.size, 4, none⟩)), .inl (vI M), .inl (strV (rmT ⟨3, S, D, N, M, A, I, J, U, F, C, Y, G, X, O, L⟩)), .inl (strV (rdT ⟨3, S, D, N, M, A, I, J, U, F, C, Y, G, X, O, L⟩)), .inl (strV (rnT ⟨3, S, D, N, M, A, I, J, U, F, C, Y, G, X, O, L⟩)), .inl (strV (rmT ⟨3, S, D, N, M, A, I, J, U, F, C, Y, G, X, O, L⟩))] (by kernel_rfl) (by kernel_rfl) (OneT.up _ _) HB.drew (by simp [upK]) ?_
  refine ⟨fun w1 hC _ => by go_simp; exact Below.refl _ _, ?_⟩
  simp only [Act.put, List.setIfInBounds_toArray, List.set_cons_succ, List.set_cons_zero]
  refine ⟨fun w1 hC _ => by have hq := hC.one.at 2 _ rfl; go_simp; exact Below.refl _ _, ?_⟩
  simp only [Act.put, List.setIfInBounds_toArray, List.set_cons_succ, List.set_cons_zero]
  refine ⟨fun w1 hC _ => rel_load_row 23 _ rfl w.heap.size (by go_simp) 23 (⟨3, S, D, N, M, A, I, J, U, F, C, Y, G, X, O, L⟩ : Ins).cells (0, 0) _ hC.one.box Tryz.underlying23 rfl (by kernel_rfl), ?_⟩
  simp only [Act.put, List.setIfInBounds_toArray, List.set_cons_succ, List.set_cons_zero]
  refine ⟨fun w1 hC _ => ?_, ?_⟩
  · go_simp
    refine (stackRd_c ⟨3, S, D, N, M, A, I, J, U, F, C, Y, G, X, O, L⟩ w1).mono ?_
    rintro e w2 ⟨rfl, rfl⟩
    exact ⟨rfl, below_alloc _ _⟩
  simp only [Act.put, List.setIfInBounds_toArray, List.set_cons_succ, List.set_cons_zero]
  refine ⟨fun w1 hC _ => ?_, ?_⟩
  · go_simp
    refine (name_c D (spD ⟨3, S, D, N, M, A, I, J, U, F, C, Y, G, X, O, L⟩) hr.d0 hr.d1 w1 hC.tab).mono ?_
    rintro e w2 ⟨rfl, hb⟩
    exact ⟨rfl, hb⟩
  simp only [Act.put, List.setIfInBounds_toArray, List.set_cons_succ, List.set_cons_zero]
  refine ⟨fun w1 hC _ => by go_simp; exact Below.refl _ _, ?_⟩
  simp only [Act.put, List.setIfInBounds_toArray, List.set_cons_succ, List.set_cons_zero]
  refine ⟨fun w1 hC _ => by have hq := hC.one.at 3 _ rfl; go_simp; exact Below.refl _ _, ?_⟩
  simp only [Act.put, List.setIfInBounds_toArray, List.set_cons_succ, List.set_cons_zero]
  refine ⟨fun w1 hC _ => rel_load_row 23 _ rfl w.heap.size (by go_simp) 23 (⟨3, S, D, N, M, A, I, J, U, F, C, Y, G, X, O, L⟩ : Ins).cells (0, 0) _ hC.one.box Tryz.underlying23 rfl (by kernel_rfl), ?_⟩
  simp only [Act.put, List.setIfInBounds_toArray, List.set_cons_succ, List.set_cons_zero]
  refine ⟨fun w1 hC _ => ?_, ?_⟩
  · go_simp
    refine (stackRn_c ⟨3, S, D, N, M, A, I, J, U, F, C, Y, G, X, O, L⟩ w1).mono ?_
    rintro e w2 ⟨rfl, rfl⟩
    exact ⟨rfl, below_alloc _ _⟩
  simp only [Act.put, List.setIfInBounds_toArray, List.set_cons_succ, List.set_cons_zero]
  refine ⟨fun w1 hC _ => ?_, ?_⟩
  · go_simp
    refine (name_c N (spN ⟨3, S, D, N, M, A, I, J, U, F, C, Y, G, X, O, L⟩) hr.n0 hr.n1 w1 hC.tab).mono ?_
    rintro e w2 ⟨rfl, hb⟩
    exact ⟨rfl, hb⟩
  simp only [Act.put, List.setIfInBounds_toArray, List.set_cons_succ, List.set_cons_zero]
  refine ⟨fun w1 hC _ => by go_simp; exact Below.refl _ _, ?_⟩
  simp only [Act.put, List.setIfInBounds_toArray, List.set_cons_succ, List.set_cons_zero]
  refine ⟨fun w1 hC _ => by have hq := hC.one.at 4 _ rfl; go_simp; exact Below.refl _ _, ?_⟩
  simp only [Act.put, List.setIfInBounds_toArray, List.set_cons_succ, List.set_cons_zero]
  refine ⟨fun w1 hC _ => ?_, ?_⟩
  · go_simp
    refine (name_c M false hr.m0 hr.m1 w1 hC.tab).mono ?_
    rintro e w2 ⟨rfl, hb⟩
    exact ⟨rfl, hb⟩
  simp only [Act.put, List.setIfInBounds_toArray, List.set_cons_succ, List.set_cons_zero]
  refine ⟨fun w1 hC _ => by go_simp; exact Below.refl _ _, ?_⟩
  simp only [Act.put, List.setIfInBounds_toArray, List.set_cons_succ, List.set_cons_zero]
  refine ⟨fun w1 hC _ => by go_simp; exact Below.refl _ _, ?_⟩
  simp only [Act.put, List.setIfInBounds_toArray, List.set_cons_succ, List.set_cons_zero]
  refine ⟨fun w1 hC _ => by go_simp; exact Below.refl _ _, ?_⟩
  simp only [Act.put, List.setIfInBounds_toArray, List.set_cons_succ, List.set_cons_zero]
  clear HB
  intro w1 HB _
  have c0 := HB.one.at 0 _ rfl
  have c8 : ∀ o, (w1.alloc o).cell? ⟨w.heap.size, 8, none⟩ = some (vI U) := fun o => (HB.grow (below_alloc _ o)).one.at 8 _ rfl
  have c9 : ∀ o, (w1.alloc o).cell? ⟨w.heap.size, 9, none⟩ = some (vI F) := fun o => (HB.grow (below_alloc _ o)).one.at 9 _ rfl
  repeat' (first | with_reducible refine then_exit ?_ | with_reducible refine then_normal ?_ | with_reducible refine inBlock_eq ?_ | with_reducible refine inBlock_ne rfl ?_ | with_reducible refine inBlock_normal ?_ | (go_at_call 55; refine (shifted_c F U t3.out.1 t3.out.2 HN.k0 HN.k1 _ (HB.tab.grow (below_alloc _ _))).mono ?_; rintro e w' ⟨v2, rfl, hrow, hb⟩; dsimp only) | (at_builtin; refine wpList_append_rows (by rfl) _ _ (by rfl) w [rdT ⟨3, S, D, N, M, A, I, J, U, F, C, Y, G, X, O, L⟩, rnT ⟨3, S, D, N, M, A, I, J, U, F, C, Y, G, X, O, L⟩, rmT ⟨3, S, D, N, M, A, I, J, U, F, C, Y, G, X, O, L⟩] (shiftedT F U) (.slice (some ⟨w1.heap.size, 0, none⟩) 3 3) v2 (by rfl) (by rfl) (own_grow (row_new _ [rdT ⟨3, S, D, N, M, A, I, J, U, F, C, Y, G, X, O, L⟩, rnT ⟨3, S, D, N, M, A, I, J, U, F, C, Y, G, X, O, L⟩, rmT ⟨3, S, D, N, M, A, I, J, U, F, C, Y, G, X, O, L⟩] (by simp) _ HB.size) hb) (own_mono hrow (Nat.le_trans HB.size (below_alloc _ _).size)) (below_then (below_then HB.one.below (below_alloc _ _)) hb) (by unfold shiftedT; cases (F == 0 && U == 0) <;> simp) ?_; intro v' w2 hv' hb'; simp only [Act.put, List.setIfInBounds_toArray, List.set_cons_succ, List.set_cons_zero]) | go_step)
  go_ret
  exact ⟨_, rfl, hv', hb'⟩

set_option maxRecDepth 8000 in
set_option maxHeartbeats 8000000 in
theorem parts4 (S D N M A I J U F C Y : Int) (G X O L : Bool) (hr : InR ⟨4, S, D, N, M, A, I, J, U, F, C, Y, G, X, O, L⟩) (w : World) (T : Tab w) : Calls Tryz.prog 26 #[(⟨4, S, D, N, M, A, I, J, U, F, C, Y, G, X, O, L⟩ : Ins).val] w fun e w' => ∃ v, e = .returned v ∧ RowT w.heap.size ([rdT ⟨4, S, D, N, M, A, I, J, U, F, C, Y, G, X, O, L⟩, rnT ⟨4, S, D, N, M, A, I, J, U, F, C, Y, G, X, O, L⟩, maskT ⟨4, S, D, N, M, A, I, J, U, F, C, Y, G, X, O, L⟩]) v w' ∧ Below w.heap.size w w' := by
  have HB := oneT_start ⟨4, S, D, N, M, A, I, J, U, F, C, Y, G, X, O, L⟩ w T
  go_enter Tryz.func26, Tryz.ntmps26
  repeat' (first | with_reducible refine then_exit ?_ | with_reducible refine then_normal ?_ | with_reducible refine inBlock_eq ?_ | with_reducible refine inBlock_ne rfl ?_ | with_reducible refine inBlock_normal ?_ | go_step)
  refine wp_region_rel Grows (fun x => OneT ⟨4, S, D, N, M, A, I, J, U, F, C, Y, G, X, O, L⟩ w x) [.inl (.pointer (some ⟨w.heap.size, 2, none⟩)), .inl (vI D), .inl (⟨4, S, D, N, M, A, I, J, U, F, C, Y, G, X, O, L⟩ : Ins).val, .inl (.bool (spD ⟨4, S, D, N, M, A, I, J, U, F, C, Y, G, X, O, L⟩)), .inl (strV (rdT ⟨4, S, D, N, M, A, I, J, U, F, C, Y, G, X, O, L⟩)), .inl (.pointer (some ⟨w.heap.size, 3, none⟩)), .inl (vI N), .inl (⟨4, S, D, N, M, A, I, J, U, F, C, Y, G, X, O, L⟩ : Ins).val, .inl (.bool (spN ⟨4, S, D, N, M, A, I, J, U, F, C, Y, G, X, O, L⟩)), .inl (strV (rnT ⟨4, S, D, N, M, A, I, J, U, F, C, Y, G, X, O, L⟩)), .inl (.pointer (some ⟨w.heap.size, 4, none⟩)), .inl (vI M), .inl (strV (rmT ⟨4, S, D, N, M, A, I, J, U, F, C, Y, G, X, O, L⟩)), .inl (strV (rdT ⟨4, S, D, N, M, A, I, J, U, F, C, Y, G, X, O, L⟩)), .inl (strV (rnT ⟨4, S, D, N, M, A, I, J, U, F, C, Y, G, X, O, L⟩)), .inl (strV (rmT ⟨4, S, D, N, M, A, I, J, U, F, C, Y, G, X, O, L⟩))] (by kernel_rfl) (by kernel_rfl) (OneT.up _ _) HB.drew (by simp [upK]) ?_
  refine ⟨fun w1 hC _ => by go_simp; exact Below.refl _ _, ?_⟩
  simp only [Act.put, List.setIfInBounds_toArray, List.set_cons_succ, List.set_cons_zero]
  refine ⟨fun w1 hC _ => by have hq := hC.one.at 2 _ rfl; go_simp; exact Below.refl _ _, ?_⟩
  simp only [Act.put, List.setIfInBounds_toArray, List.set_cons_succ, List.set_cons_zero]
  refine ⟨fun w1 hC _ => rel_load_row 23 _ rfl w.heap.size (by go_simp) 23 (⟨4, S, D, N, M, A, I, J, U, F, C, Y, G, X, O, L⟩ : Ins).cells (0, 0) _ hC.one.box Tryz.underlying23 rfl (by kernel_rfl), ?_⟩
  simp only [Act.put, List.setIfInBounds_toArray, List.set_cons_succ, List.set_cons_zero]
  refine ⟨fun w1 hC _ => ?_, ?_⟩
  · go_simp
    refine (stackRd_c ⟨4, S, D, N, M, A, I, J, U, F, C, Y, G, X, O, L⟩ w1).mono ?_
    rintro e w2 ⟨rfl, rfl⟩
    exact ⟨rfl, below_alloc _ _⟩
  simp only [Act.put, List.setIfInBounds_toArray, List.set_cons_succ, List.set_cons_zero]
  refine ⟨fun w1 hC _ => ?_, ?_⟩
  · go_simp
    refine (name_c D (spD ⟨4, S, D, N, M, A, I, J, U, F, C, Y, G, X, O, L⟩) hr.d0 hr.d1 w1 hC.tab).mono ?_
    rintro e w2 ⟨rfl, hb⟩
    exact ⟨rfl, hb⟩
  simp only [Act.put, List.setIfInBounds_toArray, List.set_cons_succ, List.set_cons_zero]
  refine ⟨fun w1 hC _ => by go_simp; exact Below.refl _ _, ?_⟩
  simp only [Act.put, List.setIfInBounds_toArray, List.set_cons_succ, List.set_cons_zero]
  refine ⟨fun w1 hC _ => by have hq := hC.one.at 3 _ rfl; go_simp; exact Below.refl _ _, ?_⟩
  simp only [Act.put, List.setIfInBounds_toArray, List.set_cons_succ, List.set_cons_zero]
  refine ⟨fun w1 hC _ => rel_load_row 23 _ rfl w.heap.size (by go_simp) 23 (⟨4, S, D, N, M, A, I, J, U, F, C, Y, G, X, O, L⟩ : Ins).cells (0, 0) _ hC.one.box Tryz.underlying23 rfl (by kernel_rfl), ?_⟩
  simp only [Act.put, List.setIfInBounds_toArray, List.set_cons_succ, List.set_cons_zero]
  refine ⟨fun w1 hC _ => ?_, ?_⟩
  · go_simp
    refine (stackRn_c ⟨4, S, D, N, M, A, I, J, U, F, C, Y, G, X, O, L⟩ w1).mono ?_
    rintro e w2 ⟨rfl, rfl⟩
    exact ⟨rfl, below_alloc _ _⟩
  simp only [Act.put, List.setIfInBounds_toArray, List.set_cons_succ, List.set_cons_zero]
  refine ⟨fun w1 hC _ => ?_, ?_⟩
  · go_simp
    refine (name_c N (spN ⟨4, S, D, N, M, A, I, J, U, F, C, Y, G, X, O, L⟩) hr.n0 hr.n1 w1 hC.tab).mono ?_
    rintro e w2 ⟨rfl, hb⟩
    exact ⟨rfl, hb⟩
  simp only [Act.put, List.setIfInBounds_toArray, List.set_cons_succ, List.set_cons_zero]
  refine ⟨fun w1 hC _ => by go_simp; exact Below.refl _ _, ?_⟩
  simp only [Act.put, List.setIfInBounds_toArray, List.set_cons_succ, List.set_cons_zero]
  refine ⟨fun w1 hC _ => by have hq := hC.one.at 4 _ rfl; go_simp; exact Below.refl _ _, ?_⟩
  simp only [Act.put, List.setIfInBounds_toArray, List.set_cons_succ, List.set_cons_zero]
  refine ⟨fun w1 hC _ => ?_, ?_⟩
  · go_simp
    refine (name_c M false hr.m0 hr.m1 w1 hC.tab).mono ?_
    rintro e w2 ⟨rfl, hb⟩
    exact ⟨rfl, hb⟩
  simp only [Act.put, List.setIfInBounds_toArray, List.set_cons_succ, List.set_cons_zero]
  refine ⟨fun w1 hC _ => by go_simp; exact Below.refl _ _, ?_⟩
  simp only [Act.put, List.setIfInBounds_toArray, List.set_cons_succ, List.set_cons_zero]
  refine ⟨fun w1 hC _ => by go_simp; exact Below.refl _ _, ?_⟩
  simp only [Act.put, List.setIfInBounds_toArray, List.set_cons_succ, List.set_cons_zero]
  refine ⟨fun w1 hC _ => by go_simp; exact Below.refl _ _, ?_⟩
  simp only [Act.put, List.setIfInBounds_toArray, List.set_cons_succ, List.set_cons_zero]
  clear HB
  intro w1 HB _
  have c0 := HB.one.at 0 _ rfl
  repeat' (first | with_reducible refine then_exit ?_ | with_reducible refine then_normal ?_ | with_reducible refine inBlock_eq ?_ | with_reducible refine inBlock_ne rfl ?_ | with_reducible refine inBlock_normal ?_ | (refine wpList_load_if rfl 23 _ rfl w.heap.size rfl 23 _ (0, 0) _ HB.one.box Tryz.underlying23 rfl (by kernel_rfl) ?_; simp only [Act.put, List.setIfInBounds_toArray, List.set_cons_succ, List.set_cons_zero]) | (go_at_call 56; refine (maskT_c ⟨4, S, D, N, M, A, I, J, U, F, C, Y, G, X, O, L⟩ _ HB.tab).mono ?_; rintro e w' ⟨rfl, hb⟩; dsimp only; replace HB := HB.grow hb; clear hb) | go_step)
  go_ret
  exact ⟨_, rfl, row_new _ [rdT ⟨4, S, D, N, M, A, I, J, U, F, C, Y, G, X, O, L⟩, rnT ⟨4, S, D, N, M, A, I, J, U, F, C, Y, G, X, O, L⟩, maskT ⟨4, S, D, N, M, A, I, J, U, F, C, Y, G, X, O, L⟩] (by simp) _ HB.size, below_then HB.one.below (below_alloc _ _)⟩

set_option maxRecDepth 8000 in
set_option maxHeartbeats 8000000 in
theorem parts5 (S D N M A I J U F C Y : Int) (G X O L : Bool) (hr : InR ⟨5, S, D, N, M, A, I, J, U, F, C, Y, G, X, O, L⟩) (HN : Num ⟨5, S, D, N, M, A, I, J, U, F, C, Y, G, X, O, L⟩) (w : World) (T : Tab w) : Calls Tryz.prog 26 #[(⟨5, S, D, N, M, A, I, J, U, F, C, Y, G, X, O, L⟩ : Ins).val] w fun e w' => ∃ v, e = .returned v ∧ RowT w.heap.size ([rdT ⟨5, S, D, N, M, A, I, J, U, F, C, Y, G, X, O, L⟩, numT I] ++ shiftedT 0 U) v w' ∧ Below w.heap.size w w' := by
  have HB := oneT_start ⟨5, S, D, N, M, A, I, J, U, F, C, Y, G, X, O, L⟩ w T
  go_enter Tryz.func26, Tryz.ntmps26
  repeat' (first | with_reducible refine then_exit ?_ | with_reducible refine then_normal ?_ | with_reducible refine inBlock_eq ?_ | with_reducible refine inBlock_ne rfl ?_ | with_reducible refine inBlock_normal ?_ | go_step)
  refine wp_region_rel Grows (fun x => OneT ⟨5, S, D, N, M, A, I, J, U, F, C, Y, G, X, O, L⟩ w x) [.inl (.pointer (some ⟨w.heap.size, 2, none⟩)), .inl (vI D), .inl (⟨5, S, D, N, M, A, I, J, U, F, C, Y, G, X, O, L⟩ : Ins).val, .inl (.bool (spD ⟨5, S, D, N, M, A, I, J, U, F, C, Y, G, X, O, L⟩)), .inl (strV (rdT ⟨5, S, D, N, M, A, I, J, U, F, C, Y, G, X, O, L⟩)), .inl (.pointer (some ⟨w.heap.size, 3, none⟩)), .inl (vI N), .inl (⟨5, S, D, N, M, A, I, J, U, F, C, Y, G, X, O, L⟩ : Ins).val, .inl (.bool (spN ⟨5, S, D, N, M, A, I, J, U, F, C, Y, G, X, O, L⟩)), .inl (strV (rnT ⟨5, S, D, N, M, A, I, J, U, F, C, Y, G, X, O, L⟩)), .inl (.pointer (some ⟨w.heap.size, 4, none⟩)), .inl (vI M), .inl (strV (rmT ⟨5, S, D, N, M, A, I, J, U, F, C, Y, G, X, O, L⟩)), .inl (strV (rdT ⟨5, S, D, N, M, A, I, J, U, F, C, Y, G, X, O, L⟩)), .inl (strV (rnT ⟨5, S, D, N, M, A, I, J, U, F, C, Y, G, X, O, L⟩)), .inl (strV (rmT ⟨5, S, D, N, M, A, I, J, U, F, C, Y, G, X, O, L⟩))] (by kernel_rfl) (by kernel_rfl) (OneT.up _ _) HB.drew (by simp [upK]) ?_
  refine ⟨fun w1 hC _ => by go_simp; exact Below.refl _ _, ?_⟩
  simp only [Act.put, List.setIfInBounds_toArray, List.set_cons_succ, List.set_cons_zero]
  refine ⟨fun w1 hC _ => by have hq := hC.one.at 2 _ rfl; go_simp; exact Below.refl _ _, ?_⟩
  simp only [Act.put, List.setIfInBounds_toArray, List.set_cons_succ, List.set_cons_zero]
  refine ⟨fun w1 hC _ => rel_load_row 23 _ rfl w.heap.size (by go_simp) 23 (⟨5, S, D, N, M, A, I, J, U, F, C, Y, G, X, O, L⟩ : Ins).cells (0, 0) _ hC.one.box Tryz.underlying23 rfl (by kernel_rfl), ?_⟩
  simp only [Act.put, List.setIfInBounds_toArray, List.set_cons_succ, List.set_cons_zero]
  refine ⟨fun w1 hC _ => ?_, ?_⟩
  · go_simp
    refine (stackRd_c ⟨5, S, D, N, M, A, I, J, U, F, C, Y, G, X, O, L⟩ w1).mono ?_
    rintro e w2 ⟨rfl, rfl⟩
    exact ⟨rfl, below_alloc _ _⟩
  simp only [Act.put, List.setIfInBounds_toArray, List.set_cons_succ, List.set_cons_zero]
  refine ⟨fun w1 hC _ => ?_, ?_⟩
  · go_simp
    refine (name_c D (spD ⟨5, S, D, N, M, A, I, J, U, F, C, Y, G, X, O, L⟩) hr.d0 hr.d1 w1 hC.tab).mono ?_
    rintro e w2 ⟨rfl, hb⟩
    exact ⟨rfl, hb⟩
  simp only [Act.put, List.setIfInBounds_toArray, List.set_cons_succ, List.set_cons_zero]
  refine ⟨fun w1 hC _ => by go_simp; exact Below.refl _ _, ?_⟩
  simp only [Act.put, List.setIfInBounds_toArray, List.set_cons_succ, List.set_cons_zero]
  refine ⟨fun w1 hC _ => by have hq := hC.one.at 3 _ rfl; go_simp; exact Below.refl _ _, ?_⟩
  simp only [Act.put, List.setIfInBounds_toArray, List.set_cons_succ, List.set_cons_zero]
  refine ⟨fun w1 hC _ => rel_load_row 23 _ rfl w.heap.size (by go_simp) 23 (⟨5, S, D, N, M, A, I, J, U, F, C, Y, G, X, O, L⟩ : Ins).cells (0, 0) _ hC.one.box Tryz.underlying23 rfl (by kernel_rfl), ?_⟩
  simp only [Act.put, List.setIfInBounds_toArray, List.set_cons_succ, List.set_cons_zero]
  refine ⟨fun w1 hC _ => ?_, ?_⟩
  · go_simp
    refine (stackRn_c ⟨5, S, D, N, M, A, I, J, U, F, C, Y, G, X, O, L⟩ w1).mono ?_
    rintro e w2 ⟨rfl, rfl⟩
    exact ⟨rfl, below_alloc _ _⟩
  simp only [Act.put, List.setIfInBounds_toArray, List.set_cons_succ, List.set_cons_zero]
  refine ⟨fun w1 hC _ => ?_, ?_⟩
  · go_simp
    refine (name_c N (spN ⟨5, S, D, N, M, A, I, J, U, F, C, Y, G, X, O, L⟩) hr.n0 hr.n1 w1 hC.tab).mono ?_
    rintro e w2 ⟨rfl, hb⟩
    exact ⟨rfl, hb⟩
  simp only [Act.put, List.setIfInBounds_toArray, List.set_cons_succ, List.set_cons_zero]
  refine ⟨fun w1 hC _ => by go_simp; exact Below.refl _ _, ?_⟩
  simp only [Act.put, List.setIfInBounds_toArray, List.set_cons_succ, List.set_cons_zero]
  refine ⟨fun w1 hC _ => by have hq := hC.one.at 4 _ rfl; go_simp; exact Below.refl _ _, ?_⟩
  simp only [Act.put, List.setIfInBounds_toArray, List.set_cons_succ, List.set_cons_zero]
  refine ⟨fun w1 hC _ => ?_, ?_⟩
  · go_simp
    refine (name_c M false hr.m0 hr.m1 w1 hC.tab).mono ?_
    rintro e w2 ⟨rfl, hb⟩
    exact ⟨rfl, hb⟩
  simp only [Act.put, List.setIfInBounds_toArray, List.set_cons_succ, List.set_cons_zero]
  refine ⟨fun w1 hC _ => by go_simp; exact Below.refl _ _, ?_⟩
  simp only [Act.put, List.setIfInBounds_toArray, List.set_cons_succ, List.set_cons_zero]
  refine ⟨fun w1 hC _ => by go_simp; exact Below.refl _ _, ?_⟩
  simp only [Act.put, List.setIfInBounds_toArray, List.set_cons_succ, List.set_cons_zero]
  refine ⟨fun w1 hC _ => by go_simp; exact Below.refl _ _, ?_⟩
  simp only [Act.put, List.setIfInBounds_toArray, List.set_cons_succ, List.set_cons_zero]
  clear HB
  intro w1 HB _
  have c0 := HB.one.at 0 _ rfl
  repeat' (first | with_reducible refine then_exit ?_ | with_reducible refine then_normal ?_ | with_reducible refine inBlock_eq ?_ | with_reducible refine inBlock_ne rfl ?_ | with_reducible refine inBlock_normal ?_ | go_step)
  clear c0
  refine wp_region_tail 8 Grows (fun x => OneT ⟨5, S, D, N, M, A, I, J, U, F, C, Y, G, X, O, L⟩ w x) [.inl (strV (rdT ⟨5, S, D, N, M, A, I, J, U, F, C, Y, G, X, O, L⟩)), .inl (.pointer (some ⟨w.heap.size, 6, none⟩)), .inl (vI I), .inl (strV (numT I)), .inr (RowT w.heap.size [rdT ⟨5, S, D, N, M, A, I, J, U, F, C, Y, G, X, O, L⟩, numT I]), .inl (.pointer (some ⟨w.heap.size, 8, none⟩)), .inl (vI U), .inr (RowT w.heap.size (shiftedT 0 U))] (by kernel_rfl) (by kernel_rfl) (OneT.up _ _) HB.drew (by simp only [List.mem_cons, List.not_mem_nil, or_false]; rintro k hk; rcases hk with rfl | rfl | rfl | rfl | rfl | rfl | rfl | rfl <;> first | trivial | exact fun v => row_up _ _ v) ?_
  refine ⟨fun w1 hC _ => by go_simp; exact Below.refl _ _, ?_⟩
  simp only [Act.put, List.setIfInBounds_toArray, List.set_cons_succ, List.set_cons_zero]
  refine ⟨fun w1 hC _ => by go_simp; exact Below.refl _ _, ?_⟩
  simp only [Act.put, List.setIfInBounds_toArray, List.set_cons_succ, List.set_cons_zero]
  refine ⟨fun w1 hC _ => by have hq := hC.one.at 6 _ rfl; go_simp; exact Below.refl _ _, ?_⟩
  simp only [Act.put, List.setIfInBounds_toArray, List.set_cons_succ, List.set_cons_zero]
  refine ⟨fun w1 hC _ => ?_, ?_⟩
  · go_simp
    refine (number_c I HN.i0 HN.i1 w1 hC.tab).mono ?_
    rintro e w2 ⟨rfl, hb⟩
    exact ⟨rfl, hb⟩
  simp only [Act.put, List.setIfInBounds_toArray, List.set_cons_succ, List.set_cons_zero]
  refine ⟨fun w1 hC _ => ?_, fun v1 => ?_⟩
  · go_simp
    exact ⟨below_alloc _ _, row_new w1 [rdT ⟨5, S, D, N, M, A, I, J, U, F, C, Y, G, X, O, L⟩, numT I] (by simp) _ hC.size⟩
  simp only [Act.put, List.setIfInBounds_toArray, List.set_cons_succ, List.set_cons_zero]
  refine ⟨fun w1 hC _ => by go_simp; exact Below.refl _ _, ?_⟩
  simp only [Act.put, List.setIfInBounds_toArray, List.set_cons_succ, List.set_cons_zero]
  refine ⟨fun w1 hC _ => by have hq := hC.one.at 8 _ rfl; go_simp; exact Below.refl _ _, ?_⟩
  simp only [Act.put, List.setIfInBounds_toArray, List.set_cons_succ, List.set_cons_zero]
  refine ⟨fun w1 hC _ => ?_, fun v2 => ?_⟩
  · go_simp
    refine (shifted_c 0 U (by decide) (by decide) HN.k0 HN.k1 w1 hC.tab).mono ?_
    rintro e w2 ⟨v, rfl, hrow, hb⟩
    exact ⟨_, rfl, hb, own_mono hrow hC.size⟩
  simp only [Act.put, List.setIfInBounds_toArray, List.set_cons_succ, List.set_cons_zero]
  clear HB
  intro w1 HB hF
  have hrow1 := (hF 4).2.1 rfl
  have hrow2 := (hF 7).1 rfl
  simp only [List.drop_succ_cons, List.drop_zero]
  refine wpList_append_rows rfl _ _ rfl w [rdT ⟨5, S, D, N, M, A, I, J, U, F, C, Y, G, X, O, L⟩, numT I] (shiftedT 0 U) _ _ rfl rfl hrow1 hrow2 HB.one.below (by unfold shiftedT; cases ((0 : Int) == 0 && U == 0) <;> simp) ?_
  intro v' w2 hv' hb'
  simp only [Act.put, List.setIfInBounds_toArray, List.set_cons_succ, List.set_cons_zero]
  repeat' (first | with_reducible refine then_exit ?_ | with_reducible refine then_normal ?_ | with_reducible refine inBlock_eq ?_ | with_reducible refine inBlock_ne rfl ?_ | with_reducible refine inBlock_normal ?_ | go_step)
  go_ret
  exact ⟨_, rfl, hv', hb'⟩
end Go.Proofs.YtjmdgfimmjodjaaGreatDoor
