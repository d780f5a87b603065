/- The parts of what has its number at the end: contracts. -/
import Derived.Test.YtjmdgfimmjodjaaGreatDoorV26
namespace Go.Proofs.YtjmdgfimmjodjaaGreatDoor
open Go.RowKit Go.Rel

set_option maxRecDepth 8000 in
set_option maxHeartbeats 8000000 in
theorem last11 (S D N M A I J U F C Y : Int) (G X O L : Bool) (HN : Num ⟨11, S, D, N, M, A, I, J, U, F, C, Y, G, X, O, L⟩) (hr : InR ⟨11, S, D, N, M, A, I, J, U, F, C, Y, G, X, O, L⟩) (w : World) (T : Tab w) : Calls Tryz.prog 61 #[(⟨11, S, D, N, M, A, I, J, U, F, C, Y, G, X, O, L⟩ : Ins).val] w fun e w' => ∃ v, e = .returned v ∧ RowT w.heap.size ([regT D false, numT I]) v w' ∧ Below w.heap.size w w' := by
  have HW : Below (w.alloc (.cells (⟨11, S, D, N, M, A, I, J, U, F, C, Y, G, X, O, L⟩ : Ins).cells 23)).heap.size (w.alloc (.cells (⟨11, S, D, N, M, A, I, J, U, F, C, Y, G, X, O, L⟩ : Ins).cells 23)) (w.alloc (.cells (⟨11, S, D, N, M, A, I, J, U, F, C, Y, G, X, O, L⟩ : Ins).cells 23)) := Below.refl _ _
  have HS := oneT_start ⟨11, S, D, N, M, A, I, J, U, F, C, Y, G, X, O, L⟩ w T
  have W0s : w.heap.size ≤ (w.alloc (.cells (⟨11, S, D, N, M, A, I, J, U, F, C, Y, G, X, O, L⟩ : Ins).cells 23)).heap.size := (below_alloc w _).size
  go_enter Tryz.func61, Tryz.ntmps61
  repeat' (first | with_reducible refine then_exit ?_ | with_reducible refine then_normal ?_ | with_reducible refine inBlock_eq ?_ | with_reducible refine inBlock_ne rfl ?_ | with_reducible refine inBlock_normal ?_ | (go_at_call 51; refine (name_c D false hr.d0 hr.d1 _ (HS.grow HW).tab).mono ?_; rintro e w' ⟨rfl, hb⟩; dsimp only; replace HW := below_then HW hb; clear hb) | (at_builtin; refine wpList_append_rows (by rfl) _ _ (by rfl) (w.alloc (.cells (⟨11, S, D, N, M, A, I, J, U, F, C, Y, G, X, O, L⟩ : Ins).cells 23)) [] [regT D false] (.slice none 0 0) _ (by rfl) (by rfl) (World.ownsRow_nil _ _ _ _) (row_new _ [regT D false] (by simp) _ HW.size) (below_then HW (below_alloc _ _)) (by simp) ?_; intro v' w2 hv1 hb'; replace HW := hb'; clear hb'; have c0 := (HS.grow HW).one.at 0 _ rfl; have c6 := (HS.grow HW).one.at 6 _ rfl; simp only [Act.put, List.setIfInBounds_toArray, List.set_cons_succ, List.set_cons_zero]) | go_step)
  go_at_call 54
  refine (number_c I HN.i0 HN.i1 _ (HS.grow HW).tab).mono ?_
  rintro e w3 ⟨rfl, hb⟩
  dsimp only
  replace hv1 := own_grow hv1 hb
  replace HW := below_then HW hb
  clear hb
  repeat' (first | with_reducible refine then_exit ?_ | with_reducible refine then_normal ?_ | with_reducible refine inBlock_eq ?_ | with_reducible refine inBlock_ne rfl ?_ | with_reducible refine inBlock_normal ?_ | (at_builtin; refine wpList_append_rows (by rfl) _ _ (by rfl) (w.alloc (.cells (⟨11, S, D, N, M, A, I, J, U, F, C, Y, G, X, O, L⟩ : Ins).cells 23)) [regT D false] [numT I] _ _ (by rfl) (by rfl) (own_grow hv1 (below_alloc _ _)) (row_new _ [numT I] (by simp) _ HW.size) (below_then HW (below_alloc _ _)) (by simp) ?_; intro v' w2 hv hb'; replace HW := hb'; clear hb'; simp only [Act.put, List.setIfInBounds_toArray, List.set_cons_succ, List.set_cons_zero]) | go_step)
  go_ret
  exact ⟨_, rfl, own_mono hv W0s, (HS.grow HW).one.below⟩

set_option maxRecDepth 8000 in
set_option maxHeartbeats 8000000 in
theorem last12 (S D N M A I J U F C Y : Int) (G X O L : Bool) (HN : Num ⟨12, S, D, N, M, A, I, J, U, F, C, Y, G, X, O, L⟩) (w : World) (T : Tab w) : Calls Tryz.prog 61 #[(⟨12, S, D, N, M, A, I, J, U, F, C, Y, G, X, O, L⟩ : Ins).val] w fun e w' => ∃ v, e = .returned v ∧ RowT w.heap.size ([numT I]) v w' ∧ Below w.heap.size w w' := by
  have HW : Below (w.alloc (.cells (⟨12, S, D, N, M, A, I, J, U, F, C, Y, G, X, O, L⟩ : Ins).cells 23)).heap.size (w.alloc (.cells (⟨12, S, D, N, M, A, I, J, U, F, C, Y, G, X, O, L⟩ : Ins).cells 23)) (w.alloc (.cells (⟨12, S, D, N, M, A, I, J, U, F, C, Y, G, X, O, L⟩ : Ins).cells 23)) := Below.refl _ _
  have HS := oneT_start ⟨12, S, D, N, M, A, I, J, U, F, C, Y, G, X, O, L⟩ w T
  have W0s : w.heap.size ≤ (w.alloc (.cells (⟨12, S, D, N, M, A, I, J, U, F, C, Y, G, X, O, L⟩ : Ins).cells 23)).heap.size := (below_alloc w _).size
  go_enter Tryz.func61, Tryz.ntmps61
  repeat' (first | with_reducible refine then_exit ?_ | with_reducible refine then_normal ?_ | with_reducible refine inBlock_eq ?_ | with_reducible refine inBlock_ne rfl ?_ | with_reducible refine inBlock_normal ?_ | (go_at_call 54; refine (number_c I HN.i0 HN.i1 _ (HS.grow HW).tab).mono ?_; rintro e w' ⟨rfl, hb⟩; dsimp only; replace HW := below_then HW hb; clear hb) | (at_builtin; refine wpList_append_rows (by rfl) _ _ (by rfl) (w.alloc (.cells (⟨12, S, D, N, M, A, I, J, U, F, C, Y, G, X, O, L⟩ : Ins).cells 23)) [] [numT I] (.slice none 0 0) _ (by rfl) (by rfl) (World.ownsRow_nil _ _ _ _) (row_new _ [numT I] (by simp) _ HW.size) (below_then HW (below_alloc _ _)) (by simp) ?_; intro v' w2 hv hb'; replace HW := hb'; clear hb'; simp only [Act.put, List.setIfInBounds_toArray, List.set_cons_succ, List.set_cons_zero]) | go_step)
  go_ret
  exact ⟨_, rfl, own_mono hv W0s, (HS.grow HW).one.below⟩

set_option maxRecDepth 8000 in
set_option maxHeartbeats 8000000 in
theorem last13 (S D N M A I J U F C Y : Int) (G X O L : Bool) (HN : Num ⟨13, S, D, N, M, A, I, J, U, F, C, Y, G, X, O, L⟩) (w : World) (T : Tab w) : Calls Tryz.prog 61 #[(⟨13, S, D, N, M, A, I, J, U, F, C, Y, G, X, O, L⟩ : Ins).val] w fun e w' => ∃ v, e = .returned v ∧ RowT w.heap.size ([numT I]) v w' ∧ Below w.heap.size w w' := by
  have HW : Below (w.alloc (.cells (⟨13, S, D, N, M, A, I, J, U, F, C, Y, G, X, O, L⟩ : Ins).cells 23)).heap.size (w.alloc (.cells (⟨13, S, D, N, M, A, I, J, U, F, C, Y, G, X, O, L⟩ : Ins).cells 23)) (w.alloc (.cells (⟨13, S, D, N, M, A, I, J, U, F, C, Y, G, X, O, L⟩ : Ins).cells 23)) := Below.refl _ _
  have HS := oneT_start ⟨13, S, D, N, M, A, I, J, U, F, C, Y, G, X, O, L⟩ w T
  have W0s : w.heap.size ≤ (w.alloc (.cells (⟨13, S, D, N, M, A, I, J, U, F, C, Y, G, X, O, L⟩ : Ins).cells 23)).heap.size := (below_alloc w _).size
  go_enter Tryz.func61, Tryz.ntmps61
  repeat' (first | with_reducible refine then_exit ?_ | with_reducible refine then_normal ?_ | with_reducible refine inBlock_eq ?_ | with_reducible refine inBlock_ne rfl ?_ | with_reducible refine inBlock_normal ?_ | (go_at_call 54; refine (number_c I HN.i0 HN.i1 _ (HS.grow HW).tab).mono ?_; rintro e w' ⟨rfl, hb⟩; dsimp only; replace HW := below_then HW hb; clear hb) | (at_builtin; refine wpList_append_rows (by rfl) _ _ (by rfl) (w.alloc (.cells (⟨13, S, D, N, M, A, I, J, U, F, C, Y, G, X, O, L⟩ : Ins).cells 23)) [] [numT I] (.slice none 0 0) _ (by rfl) (by rfl) (World.ownsRow_nil _ _ _ _) (row_new _ [numT I] (by simp) _ HW.size) (below_then HW (below_alloc _ _)) (by simp) ?_; intro v' w2 hv hb'; replace HW := hb'; clear hb'; simp only [Act.put, List.setIfInBounds_toArray, List.set_cons_succ, List.set_cons_zero]) | go_step)
  go_ret
  exact ⟨_, rfl, own_mono hv W0s, (HS.grow HW).one.below⟩

set_option maxRecDepth 8000 in
set_option maxHeartbeats 8000000 in
theorem last14 (S D N M A I J U F C Y : Int) (G X O L : Bool) (HN : Num ⟨14, S, D, N, M, A, I, J, U, F, C, Y, G, X, O, L⟩) (hr : InR ⟨14, S, D, N, M, A, I, J, U, F, C, Y, G, X, O, L⟩) (w : World) (T : Tab w) : Calls Tryz.prog 61 #[(⟨14, S, D, N, M, A, I, J, U, F, C, Y, G, X, O, L⟩ : Ins).val] w fun e w' => ∃ v, e = .returned v ∧ RowT w.heap.size ([regT D false, numT I]) v w' ∧ Below w.heap.size w w' := by
  have HW : Below (w.alloc (.cells (⟨14, S, D, N, M, A, I, J, U, F, C, Y, G, X, O, L⟩ : Ins).cells 23)).heap.size (w.alloc (.cells (⟨14, S, D, N, M, A, I, J, U, F, C, Y, G, X, O, L⟩ : Ins).cells 23)) (w.alloc (.cells (⟨14, S, D, N, M, A, I, J, U, F, C, Y, G, X, O, L⟩ : Ins).cells 23)) := Below.refl _ _
  have HS := oneT_start ⟨14, S, D, N, M, A, I, J, U, F, C, Y, G, X, O, L⟩ w T
  have W0s : w.heap.size ≤ (w.alloc (.cells (⟨14, S, D, N, M, A, I, J, U, F, C, Y, G, X, O, L⟩ : Ins).cells 23)).heap.size := (below_alloc w _).size
  go_enter Tryz.func61, Tryz.ntmps61
  repeat' (first | with_reducible refine then_exit ?_ | with_reducible refine then_normal ?_ | with_reducible refine inBlock_eq ?_ | with_reducible refine inBlock_ne rfl ?_ | with_reducible refine inBlock_normal ?_ | (go_at_call 51; refine (name_c D false hr.d0 hr.d1 _ (HS.grow HW).tab).mono ?_; rintro e w' ⟨rfl, hb⟩; dsimp only; replace HW := below_then HW hb; clear hb) | (at_builtin; refine wpList_append_rows (by rfl) _ _ (by rfl) (w.alloc (.cells (⟨14, S, D, N, M, A, I, J, U, F, C, Y, G, X, O, L⟩ : Ins).cells 23)) [] [regT D false] (.slice none 0 0) _ (by rfl) (by rfl) (World.ownsRow_nil _ _ _ _) (row_new _ [regT D false] (by simp) _ HW.size) (below_then HW (below_alloc _ _)) (by simp) ?_; intro v' w2 hv1 hb'; replace HW := hb'; clear hb'; have c0 := (HS.grow HW).one.at 0 _ rfl; have c6 := (HS.grow HW).one.at 6 _ rfl; simp only [Act.put, List.setIfInBounds_toArray, List.set_cons_succ, List.set_cons_zero]) | go_step)
  go_at_call 54
  refine (number_c I HN.i0 HN.i1 _ (HS.grow HW).tab).mono ?_
  rintro e w3 ⟨rfl, hb⟩
  dsimp only
  replace hv1 := own_grow hv1 hb
  replace HW := below_then HW hb
  clear hb
  repeat' (first | with_reducible refine then_exit ?_ | with_reducible refine then_normal ?_ | with_reducible refine inBlock_eq ?_ | with_reducible refine inBlock_ne rfl ?_ | with_reducible refine inBlock_normal ?_ | (at_builtin; refine wpList_append_rows (by rfl) _ _ (by rfl) (w.alloc (.cells (⟨14, S, D, N, M, A, I, J, U, F, C, Y, G, X, O, L⟩ : Ins).cells 23)) [regT D false] [numT I] _ _ (by rfl) (by rfl) (own_grow hv1 (below_alloc _ _)) (row_new _ [numT I] (by simp) _ HW.size) (below_then HW (below_alloc _ _)) (by simp) ?_; intro v' w2 hv hb'; replace HW := hb'; clear hb'; simp only [Act.put, List.setIfInBounds_toArray, List.set_cons_succ, List.set_cons_zero]) | go_step)
  go_ret
  exact ⟨_, rfl, own_mono hv W0s, (HS.grow HW).one.below⟩

set_option maxRecDepth 8000 in
set_option maxHeartbeats 8000000 in
theorem last15 (S D N M A I J U F C Y : Int) (G X O L : Bool) (HN : Num ⟨15, S, D, N, M, A, I, J, U, F, C, Y, G, X, O, L⟩) (hr : InR ⟨15, S, D, N, M, A, I, J, U, F, C, Y, G, X, O, L⟩) (w : World) (T : Tab w) : Calls Tryz.prog 61 #[(⟨15, S, D, N, M, A, I, J, U, F, C, Y, G, X, O, L⟩ : Ins).val] w fun e w' => ∃ v, e = .returned v ∧ RowT w.heap.size ([regT D false, numT U, numT I]) v w' ∧ Below w.heap.size w w' := by
  have HW : Below (w.alloc (.cells (⟨15, S, D, N, M, A, I, J, U, F, C, Y, G, X, O, L⟩ : Ins).cells 23)).heap.size (w.alloc (.cells (⟨15, S, D, N, M, A, I, J, U, F, C, Y, G, X, O, L⟩ : Ins).cells 23)) (w.alloc (.cells (⟨15, S, D, N, M, A, I, J, U, F, C, Y, G, X, O, L⟩ : Ins).cells 23)) := Below.refl _ _
  have HS := oneT_start ⟨15, S, D, N, M, A, I, J, U, F, C, Y, G, X, O, L⟩ w T
  have W0s : w.heap.size ≤ (w.alloc (.cells (⟨15, S, D, N, M, A, I, J, U, F, C, Y, G, X, O, L⟩ : Ins).cells 23)).heap.size := (below_alloc w _).size
  go_enter Tryz.func61, Tryz.ntmps61
  repeat' (first | with_reducible refine then_exit ?_ | with_reducible refine then_normal ?_ | with_reducible refine inBlock_eq ?_ | with_reducible refine inBlock_ne rfl ?_ | with_reducible refine inBlock_normal ?_ | (go_at_call 51; refine (name_c D false hr.d0 hr.d1 _ (HS.grow HW).tab).mono ?_; rintro e w' ⟨rfl, hb⟩; dsimp only; replace HW := below_then HW hb; clear hb) | (at_builtin; refine wpList_append_rows (by rfl) _ _ (by rfl) (w.alloc (.cells (⟨15, S, D, N, M, A, I, J, U, F, C, Y, G, X, O, L⟩ : Ins).cells 23)) [] [regT D false] (.slice none 0 0) _ (by rfl) (by rfl) (World.ownsRow_nil _ _ _ _) (row_new _ [regT D false] (by simp) _ HW.size) (below_then HW (below_alloc _ _)) (by simp) ?_; intro v' w2 hv1 hb'; replace HW := hb'; clear hb'; have c0 := (HS.grow HW).one.at 0 _ rfl; have c8 := (HS.grow HW).one.at 8 _ rfl; simp only [Act.put, List.setIfInBounds_toArray, List.set_cons_succ, List.set_cons_zero]) | go_step)
  go_at_call 54
  refine (number_c U HN.k0 HN.k1 _ (HS.grow HW).tab).mono ?_
  rintro e w3 ⟨rfl, hb⟩
  dsimp only
  replace hv1 := own_grow hv1 hb
  replace HW := below_then HW hb
  clear hb
  repeat' (first | with_reducible refine then_exit ?_ | with_reducible refine then_normal ?_ | with_reducible refine inBlock_eq ?_ | with_reducible refine inBlock_ne rfl ?_ | with_reducible refine inBlock_normal ?_ | (at_builtin; refine wpList_append_rows (by rfl) _ _ (by rfl) (w.alloc (.cells (⟨15, S, D, N, M, A, I, J, U, F, C, Y, G, X, O, L⟩ : Ins).cells 23)) [regT D false] [numT U] _ _ (by rfl) (by rfl) (own_grow hv1 (below_alloc _ _)) (row_new _ [numT U] (by simp) _ HW.size) (below_then HW (below_alloc _ _)) (by simp) ?_; intro v' w2 hv2 hb'; replace HW := hb'; clear hb'; have c6 := (HS.grow HW).one.at 6 _ rfl; simp only [Act.put, List.setIfInBounds_toArray, List.set_cons_succ, List.set_cons_zero]) | go_step)
  go_at_call 54
  refine (number_c I HN.i0 HN.i1 _ (HS.grow HW).tab).mono ?_
  rintro e w4 ⟨rfl, hb⟩
  dsimp only
  replace hv2 := own_grow hv2 hb
  replace HW := below_then HW hb
  clear hb
  repeat' (first | with_reducible refine then_exit ?_ | with_reducible refine then_normal ?_ | with_reducible refine inBlock_eq ?_ | with_reducible refine inBlock_ne rfl ?_ | with_reducible refine inBlock_normal ?_ | (at_builtin; refine wpList_append_rows (by rfl) _ _ (by rfl) (w.alloc (.cells (⟨15, S, D, N, M, A, I, J, U, F, C, Y, G, X, O, L⟩ : Ins).cells 23)) ([regT D false] ++ [numT U]) [numT I] _ _ (by rfl) (by rfl) (own_grow hv2 (below_alloc _ _)) (row_new _ [numT I] (by simp) _ HW.size) (below_then HW (below_alloc _ _)) (by simp) ?_; intro v' w2 hv hb'; replace HW := hb'; clear hb'; simp only [Act.put, List.setIfInBounds_toArray, List.set_cons_succ, List.set_cons_zero]) | go_step)
  go_ret
  exact ⟨_, rfl, own_mono hv W0s, (HS.grow HW).one.below⟩

set_option maxRecDepth 8000 in
set_option maxHeartbeats 8000000 in
theorem last25 (S D N M A I J U F C Y : Int) (G X O L : Bool) (w : World) : Calls Tryz.prog 61 #[(⟨25, S, D, N, M, A, I, J, U, F, C, Y, G, X, O, L⟩ : Ins).val] w fun e w' => ∃ v, e = .returned v ∧ RowT w.heap.size (([] : List Tx)) v w' ∧ Below w.heap.size w w' := by
  go_enter Tryz.func61, Tryz.ntmps61
  repeat' (first | with_reducible refine then_exit ?_ | with_reducible refine then_normal ?_ | with_reducible refine inBlock_eq ?_ | with_reducible refine inBlock_ne rfl ?_ | with_reducible refine inBlock_normal ?_ | go_step)
  go_ret
  exact ⟨_, rfl, World.ownsRow_nil _ _ _ _, below_alloc _ _⟩

set_option maxRecDepth 8000 in
set_option maxHeartbeats 8000000 in
theorem last27 (S D N M A I J U F C Y : Int) (G X O L : Bool) (w : World) : Calls Tryz.prog 61 #[(⟨27, S, D, N, M, A, I, J, U, F, C, Y, G, X, O, L⟩ : Ins).val] w fun e w' => ∃ v, e = .returned v ∧ RowT w.heap.size (([] : List Tx)) v w' ∧ Below w.heap.size w w' := by
  go_enter Tryz.func61, Tryz.ntmps61
  repeat' (first | with_reducible refine then_exit ?_ | with_reducible refine then_normal ?_ | with_reducible refine inBlock_eq ?_ | with_reducible refine inBlock_ne rfl ?_ | with_reducible refine inBlock_normal ?_ | go_step)
  go_ret
  exact ⟨_, rfl, World.ownsRow_nil _ _ _ _, below_alloc _ _⟩

set_option maxRecDepth 8000 in
set_option maxHeartbeats 8000000 in
theorem last29 (S D N M A I J U F C Y : Int) (G X O L : Bool) (w : World) : Calls Tryz.prog 61 #[(⟨29, S, D, N, M, A, I, J, U, F, C, Y, G, X, O, L⟩ : Ins).val] w fun e w' => ∃ v, e = .returned v ∧ RowT w.heap.size (([] : List Tx)) v w' ∧ Below w.heap.size w w' := by
  go_enter Tryz.func61, Tryz.ntmps61
  repeat' (first | with_reducible refine then_exit ?_ | with_reducible refine then_normal ?_ | with_reducible refine inBlock_eq ?_ | with_reducible refine inBlock_ne rfl ?_ | with_reducible refine inBlock_normal ?_ | go_step)
  go_ret
  exact ⟨_, rfl, World.ownsRow_nil _ _ _ _, below_alloc _ _⟩

set_option maxRecDepth 8000 in
set_option maxHeartbeats 8000000 in
theorem last33 (S D N M A I J U F C Y : Int) (G X O L : Bool) (HN : Num ⟨33, S, D, N, M, A, I, J, U, F, C, Y, G, X, O, L⟩) (s0 : 0 ≤ S) (s1 : S ≤ 1) (w : World) (T : Tab w) : Calls Tryz.prog 61 #[(⟨33, S, D, N, M, A, I, J, U, F, C, Y, G, X, O, L⟩ : Ins).val] w fun e w' => ∃ v, e = .returned v ∧ RowT w.heap.size ([daifT S, numT I]) v w' ∧ Below w.heap.size w w' := by
  have hs : S = 0 ∨ S = 1 := by omega
  clear s0 s1
  have hD : Hid (([[100, 97, 105, 102, 115, 101, 116], [100, 97, 105, 102, 99, 108, 114]] : List Tx)[S.toNat]? = some (daifT S)) := by rcases hs with rfl | rfl <;> rfl
  have S0 : Hid (0 ≤ S) := by show _ ≤ _; omega
  have S1 : Hid (S < 2) := by show _ < _; omega
  clear hs
  have HW : Below (w.alloc (.cells (⟨33, S, D, N, M, A, I, J, U, F, C, Y, G, X, O, L⟩ : Ins).cells 23)).heap.size (w.alloc (.cells (⟨33, S, D, N, M, A, I, J, U, F, C, Y, G, X, O, L⟩ : Ins).cells 23)) (w.alloc (.cells (⟨33, S, D, N, M, A, I, J, U, F, C, Y, G, X, O, L⟩ : Ins).cells 23)) := Below.refl _ _
  have HS := oneT_start ⟨33, S, D, N, M, A, I, J, U, F, C, Y, G, X, O, L⟩ w T
  have W0s : w.heap.size ≤ (w.alloc (.cells (⟨33, S, D, N, M, A, I, J, U, F, C, Y, G, X, O, L⟩ : Ins).cells 23)).heap.size := (below_alloc w _).size
  go_enter Tryz.func61, Tryz.ntmps61
  repeat' (first | with_reducible refine then_exit ?_ | with_reducible refine then_normal ?_ | with_reducible refine inBlock_eq ?_ | with_reducible refine inBlock_ne rfl ?_ | with_reducible refine inBlock_normal ?_ | go_step)
  refine wp_region_tail 9 Grows (fun x => Below (w.alloc (.cells (⟨33, S, D, N, M, A, I, J, U, F, C, Y, G, X, O, L⟩ : Ins).cells 23)).heap.size (w.alloc (.cells (⟨33, S, D, N, M, A, I, J, U, F, C, Y, G, X, O, L⟩ : Ins).cells 23)) x) [.inl (.slice none 0 0), .inl (.pointer (some ⟨w.heap.size, 1, none⟩)), .inl (vI S), .inr (RowT 0 [[100, 97, 105, 102, 115, 101, 116], [100, 97, 105, 102, 99, 108, 114]]), .inl (strV (daifT S)), .inl (.pointer (some ⟨w.heap.size, 6, none⟩)), .inl (vI I), .inl (strV (numT I)), .inr (RowT (w.alloc (.cells (⟨33, S, D, N, M, A, I, J, U, F, C, Y, G, X, O, L⟩ : Ins).cells 23)).heap.size [daifT S, numT I])] (by kernel_rfl) (by kernel_rfl) (up_below _) (below_drawn _) (by simp only [List.mem_cons, List.not_mem_nil, or_false]; rintro k hk; rcases hk with rfl | rfl | rfl | rfl | rfl | rfl | rfl | rfl | rfl <;> first | trivial | exact fun v => row_up _ _ v) ?_
  refine ⟨fun w1 hC _ => by go_simp; exact Below.refl _ _, ?_⟩
  simp only [Act.put, List.setIfInBounds_toArray, List.set_cons_succ, List.set_cons_zero]
  refine ⟨fun w1 hC _ => by go_simp; exact Below.refl _ _, ?_⟩
  simp only [Act.put, List.setIfInBounds_toArray, List.set_cons_succ, List.set_cons_zero]
  refine ⟨fun w1 hC _ => by have hq := (HS.grow hC).one.at 1 _ rfl; go_simp; exact Below.refl _ _, ?_⟩
  simp only [Act.put, List.setIfInBounds_toArray, List.set_cons_succ, List.set_cons_zero]
  refine ⟨fun w1 hC _ => ?_, fun v1 => ?_⟩
  · go_simp
    exact ⟨below_alloc _ _, row_new w1 [[100, 97, 105, 102, 115, 101, 116], [100, 97, 105, 102, 99, 108, 114]] (by simp) _ (Nat.zero_le _)⟩
  simp only [Act.put, List.setIfInBounds_toArray, List.set_cons_succ, List.set_cons_zero]
  refine ⟨fun w1 hC hF => ?_, ?_⟩
  · have hv := (hF 3 (by kernel_rfl)).1 rfl
    rcases hv.2 with ⟨-, h0⟩ | ⟨g, cap, cur, hq, -⟩
    · exact absurd h0 (by decide)
    · subst hq
      have hcell := World.ownsRow.cells hv (g := g) rfl S.toNat (strV (daifT S)) (by rw [List.getElem?_map, hD.out]; rfl)
      rw [Lib.add_plain] at hcell
      clear hv hF
      go_simp
      refine (one_c S 2 cap g 0 _ w1 S0.out S1.out hcell).mono ?_
      rintro e w2 ⟨rfl, rfl⟩
      exact ⟨rfl, Below.refl _ _⟩
  simp only [Act.put, List.setIfInBounds_toArray, List.set_cons_succ, List.set_cons_zero]
  refine ⟨fun w1 hC _ => by go_simp; exact Below.refl _ _, ?_⟩
  simp only [Act.put, List.setIfInBounds_toArray, List.set_cons_succ, List.set_cons_zero]
  refine ⟨fun w1 hC _ => by have hq := (HS.grow hC).one.at 6 _ rfl; go_simp; exact Below.refl _ _, ?_⟩
  simp only [Act.put, List.setIfInBounds_toArray, List.set_cons_succ, List.set_cons_zero]
  refine ⟨fun w1 hC _ => ?_, ?_⟩
  · go_simp
    refine (number_c I HN.i0 HN.i1 w1 (HS.grow hC).tab).mono ?_
    rintro e w2 ⟨rfl, hb⟩
    exact ⟨rfl, hb⟩
  simp only [Act.put, List.setIfInBounds_toArray, List.set_cons_succ, List.set_cons_zero]
  refine ⟨fun w1 hC _ => ?_, fun v2 => ?_⟩
  · go_simp
    exact ⟨below_alloc _ _, row_new w1 [daifT S, numT I] (by simp) _ (by have := hC.size; simpa using this)⟩
  simp only [Act.put, List.setIfInBounds_toArray, List.set_cons_succ, List.set_cons_zero]
  clear HW
  intro w1 HW hF
  have hrow2 := (hF 8).1 rfl
  simp only [List.drop_succ_cons, List.drop_zero]
  refine wpList_append_rows rfl _ _ rfl (w.alloc (.cells (⟨33, S, D, N, M, A, I, J, U, F, C, Y, G, X, O, L⟩ : Ins).cells 23)) [] [daifT S, numT I] _ _ rfl rfl (World.ownsRow_nil _ _ _ _) hrow2 HW (by simp) ?_
  intro v' w2 hv' hb'
  simp only [Act.put, List.setIfInBounds_toArray, List.set_cons_succ, List.set_cons_zero]
  repeat' (first | with_reducible refine then_exit ?_ | with_reducible refine then_normal ?_ | with_reducible refine inBlock_eq ?_ | with_reducible refine inBlock_ne rfl ?_ | with_reducible refine inBlock_normal ?_ | go_step)
  go_ret
  exact ⟨_, rfl, own_mono hv' W0s, (HS.grow hb').one.below⟩

set_option maxRecDepth 8000 in
set_option maxHeartbeats 8000000 in
theorem last34 (S D N M A I J U F C Y : Int) (G X O L : Bool) (HN : Num ⟨34, S, D, N, M, A, I, J, U, F, C, Y, G, X, O, L⟩) (w : World) (T : Tab w) : Calls Tryz.prog 61 #[(⟨34, S, D, N, M, A, I, J, U, F, C, Y, G, X, O, L⟩ : Ins).val] w fun e w' => ∃ v, e = .returned v ∧ RowT w.heap.size ([numT I]) v w' ∧ Below w.heap.size w w' := by
  have HW : Below (w.alloc (.cells (⟨34, S, D, N, M, A, I, J, U, F, C, Y, G, X, O, L⟩ : Ins).cells 23)).heap.size (w.alloc (.cells (⟨34, S, D, N, M, A, I, J, U, F, C, Y, G, X, O, L⟩ : Ins).cells 23)) (w.alloc (.cells (⟨34, S, D, N, M, A, I, J, U, F, C, Y, G, X, O, L⟩ : Ins).cells 23)) := Below.refl _ _
  have HS := oneT_start ⟨34, S, D, N, M, A, I, J, U, F, C, Y, G, X, O, L⟩ w T
  have W0s : w.heap.size ≤ (w.alloc (.cells (⟨34, S, D, N, M, A, I, J, U, F, C, Y, G, X, O, L⟩ : Ins).cells 23)).heap.size := (below_alloc w _).size
  go_enter Tryz.func61, Tryz.ntmps61
  repeat' (first | with_reducible refine then_exit ?_ | with_reducible refine then_normal ?_ | with_reducible refine inBlock_eq ?_ | with_reducible refine inBlock_ne rfl ?_ | with_reducible refine inBlock_normal ?_ | (go_at_call 54; refine (number_c I HN.i0 HN.i1 _ (HS.grow HW).tab).mono ?_; rintro e w' ⟨rfl, hb⟩; dsimp only; replace HW := below_then HW hb; clear hb) | (at_builtin; refine wpList_append_rows (by rfl) _ _ (by rfl) (w.alloc (.cells (⟨34, S, D, N, M, A, I, J, U, F, C, Y, G, X, O, L⟩ : Ins).cells 23)) [] [numT I] (.slice none 0 0) _ (by rfl) (by rfl) (World.ownsRow_nil _ _ _ _) (row_new _ [numT I] (by simp) _ HW.size) (below_then HW (below_alloc _ _)) (by simp) ?_; intro v' w2 hv hb'; replace HW := hb'; clear hb'; simp only [Act.put, List.setIfInBounds_toArray, List.set_cons_succ, List.set_cons_zero]) | go_step)
  go_ret
  exact ⟨_, rfl, own_mono hv W0s, (HS.grow HW).one.below⟩

set_option maxRecDepth 8000 in
set_option maxHeartbeats 8000000 in
theorem last35 (S D N M A I J U F C Y : Int) (G X O L : Bool) (HN : Num ⟨35, S, D, N, M, A, I, J, U, F, C, Y, G, X, O, L⟩) (w : World) (T : Tab w) : Calls Tryz.prog 61 #[(⟨35, S, D, N, M, A, I, J, U, F, C, Y, G, X, O, L⟩ : Ins).val] w fun e w' => ∃ v, e = .returned v ∧ RowT w.heap.size ([numT I]) v w' ∧ Below w.heap.size w w' := by
  have HW : Below (w.alloc (.cells (⟨35, S, D, N, M, A, I, J, U, F, C, Y, G, X, O, L⟩ : Ins).cells 23)).heap.size (w.alloc (.cells (⟨35, S, D, N, M, A, I, J, U, F, C, Y, G, X, O, L⟩ : Ins).cells 23)) (w.alloc (.cells (⟨35, S, D, N, M, A, I, J, U, F, C, Y, G, X, O, L⟩ : Ins).cells 23)) := Below.refl _ _
  have HS := oneT_start ⟨35, S, D, N, M, A, I, J, U, F, C, Y, G, X, O, L⟩ w T
  have W0s : w.heap.size ≤ (w.alloc (.cells (⟨35, S, D, N, M, A, I, J, U, F, C, Y, G, X, O, L⟩ : Ins).cells 23)).heap.size := (below_alloc w _).size
  go_enter Tryz.func61, Tryz.ntmps61
  repeat' (first | with_reducible refine then_exit ?_ | with_reducible refine then_normal ?_ | with_reducible refine inBlock_eq ?_ | with_reducible refine inBlock_ne rfl ?_ | with_reducible refine inBlock_normal ?_ | (go_at_call 54; refine (number_c I HN.i0 HN.i1 _ (HS.grow HW).tab).mono ?_; rintro e w' ⟨rfl, hb⟩; dsimp only; replace HW := below_then HW hb; clear hb) | (at_builtin; refine wpList_append_rows (by rfl) _ _ (by rfl) (w.alloc (.cells (⟨35, S, D, N, M, A, I, J, U, F, C, Y, G, X, O, L⟩ : Ins).cells 23)) [] [numT I] (.slice none 0 0) _ (by rfl) (by rfl) (World.ownsRow_nil _ _ _ _) (row_new _ [numT I] (by simp) _ HW.size) (below_then HW (below_alloc _ _)) (by simp) ?_; intro v' w2 hv hb'; replace HW := hb'; clear hb'; simp only [Act.put, List.setIfInBounds_toArray, List.set_cons_succ, List.set_cons_zero]) | go_step)
  go_ret
  exact ⟨_, rfl, own_mono hv W0s, (HS.grow HW).one.below⟩

set_option maxRecDepth 8000 in
set_option maxHeartbeats 8000000 in
theorem last36 (S D N M A I J U F C Y : Int) (G X O L : Bool) (w : World) : Calls Tryz.prog 61 #[(⟨36, S, D, N, M, A, I, J, U, F, C, Y, G, X, O, L⟩ : Ins).val] w fun e w' => ∃ v, e = .returned v ∧ RowT w.heap.size (([] : List Tx)) v w' ∧ Below w.heap.size w w' := by
  go_enter Tryz.func61, Tryz.ntmps61
  repeat' (first | with_reducible refine then_exit ?_ | with_reducible refine then_normal ?_ | with_reducible refine inBlock_eq ?_ | with_reducible refine inBlock_ne rfl ?_ | with_reducible refine inBlock_normal ?_ | go_step)
  go_ret
  exact ⟨_, rfl, World.ownsRow_nil _ _ _ _, below_alloc _ _⟩

set_option maxRecDepth 8000 in
set_option maxHeartbeats 8000000 in
theorem last37 (S D N M A I J U F C Y : Int) (G X O L : Bool) (HN : Num ⟨37, S, D, N, M, A, I, J, U, F, C, Y, G, X, O, L⟩) (w : World) (T : Tab w) : Calls Tryz.prog 61 #[(⟨37, S, D, N, M, A, I, J, U, F, C, Y, G, X, O, L⟩ : Ins).val] w fun e w' => ∃ v, e = .returned v ∧ RowT w.heap.size ([numT I]) v w' ∧ Below w.heap.size w w' := by
  have HW : Below (w.alloc (.cells (⟨37, S, D, N, M, A, I, J, U, F, C, Y, G, X, O, L⟩ : Ins).cells 23)).heap.size (w.alloc (.cells (⟨37, S, D, N, M, A, I, J, U, F, C, Y, G, X, O, L⟩ : Ins).cells 23)) (w.alloc (.cells (⟨37, S, D, N, M, A, I, J, U, F, C, Y, G, X, O, L⟩ : Ins).cells 23)) := Below.refl _ _
  have HS := oneT_start ⟨37, S, D, N, M, A, I, J, U, F, C, Y, G, X, O, L⟩ w T
  have W0s : w.heap.size ≤ (w.alloc (.cells (⟨37, S, D, N, M, A, I, J, U, F, C, Y, G, X, O, L⟩ : Ins).cells 23)).heap.size := (below_alloc w _).size
  go_enter Tryz.func61, Tryz.ntmps61
  repeat' (first | with_reducible refine then_exit ?_ | with_reducible refine then_normal ?_ | with_reducible refine inBlock_eq ?_ | with_reducible refine inBlock_ne rfl ?_ | with_reducible refine inBlock_normal ?_ | (go_at_call 54; refine (number_c I HN.i0 HN.i1 _ (HS.grow HW).tab).mono ?_; rintro e w' ⟨rfl, hb⟩; dsimp only; replace HW := below_then HW hb; clear hb) | (at_builtin; refine wpList_append_rows (by rfl) _ _ (by rfl) (w.alloc (.cells (⟨37, S, D, N, M, A, I, J, U, F, C, Y, G, X, O, L⟩ : Ins).cells 23)) [] [numT I] (.slice none 0 0) _ (by rfl) (by rfl) (World.ownsRow_nil _ _ _ _) (row_new _ [numT I] (by simp) _ HW.size) (below_then HW (below_alloc _ _)) (by simp) ?_; intro v' w2 hv hb'; replace HW := hb'; clear hb'; simp only [Act.put, List.setIfInBounds_toArray, List.set_cons_succ, List.set_cons_zero]) | go_step)
  go_ret
  exact ⟨_, rfl, own_mono hv W0s, (HS.grow HW).one.below⟩
end Go.Proofs.YtjmdgfimmjodjaaGreatDoor
