/- What instructions read, Op by Op, as the document's own answer tells: contracts. -/
import Derived.Test.YtjmdgfimmjodjaaGreatDoorV21
namespace Go.Proofs.YtjmdgfimmjodjaaGreatDoor
open Go.RowKit Go.Rel
theorem set_none2 : setAt [] [] = 0 := by decide +kernel
set_option linter.unusedVariables false
set_option maxRecDepth 8000 in
set_option maxHeartbeats 2000000 in
theorem rd_3 (S D N M A I J U F C Y : Int) (G X O L : Bool) (hR : rightB ⟨3, S, D, N, M, A, I, J, U, F, C, Y, G, X, O, L⟩ = true) (w : World) :
    Calls Tryz.prog 17 #[Ins.val ⟨3, S, D, N, M, A, I, J, U, F, C, Y, G, X, O, L⟩] w fun e w' => ∃ v, e = .returned v ∧ w'.ownsRow w.heap.size 3 1 v (listL (setAt [N, M] [spN (⟨3, S, D, N, M, A, I, J, U, F, C, Y, G, X, O, L⟩ : Ins), false]) 32).length (listV (setAt [N, M] [spN (⟨3, S, D, N, M, A, I, J, U, F, C, Y, G, X, O, L⟩ : Ins), false]) 32) ∧ Below w.heap.size w w' := by
  have T : Pair ⟨3, S, D, N, M, A, I, J, U, F, C, Y, G, X, O, L⟩ w [] [] (.slice none 0 0) (.slice none 0 0) (w.alloc (.cells (Ins.cells ⟨3, S, D, N, M, A, I, J, U, F, C, Y, G, X, O, L⟩) 23)) := ⟨one_start _ w, World.ownsRow_nil _ _ _ _, World.ownsRow_nil _ _ _ _⟩
  have en : hasB (shapeS 3) 110 = true := by decide +kernel
  have em : hasB (shapeS 3) 109 = true := by decide +kernel
  have ea : hasB (shapeS 3) 97 = false := by decide +kernel
  go_enter Tryz.func17, Tryz.ntmps17
  go_wp2_with (first | (refine wpList_load_if rfl 23 _ rfl w.heap.size rfl 23 _ (0, 0) _ T.one.box Tryz.underlying23 rfl (by kernel_rfl) ?_; simp only [Act.put, List.setIfInBounds_toArray, List.set_cons_succ, List.set_cons_zero]) | ((with_reducible refine wpList_load_cell rfl 3 _ rfl _ _ rfl _ (T.one.at _ _ rfl) (agg3 _) ?_); simp only [Act.put, List.setIfInBounds_toArray, List.set_cons_succ, List.set_cons_zero]) | (go_at_call 5; refine (rright_c (⟨3, S, D, N, M, A, I, J, U, F, C, Y, G, X, O, L⟩ : Ins) _).mono ?_; rw [hR]; rintro e w2 ⟨rfl, hb2⟩; replace T := T.grow hb2; clear hb2; dsimp only) | (go_at_call 46; refine (shape_c 3 _).mono ?_; rintro e w2 ⟨rfl, rfl⟩) | (go_at_call 47; refine (rhas_c (shapeS 3) _ (by decide) _).mono ?_; (first | rw [en] | rw [em] | rw [ea]); rintro e w2 ⟨rfl, rfl⟩) | (go_at_call 31; refine (rspN_c (⟨3, S, D, N, M, A, I, J, U, F, C, Y, G, X, O, L⟩ : Ins) _).mono ?_; rintro e w2 ⟨rfl, hb2⟩; replace T := T.grow hb2; clear hb2; dsimp only) | ((with_reducible refine app_int rfl _ _ rfl T _ rfl rfl ?_ ?_); (focus simp); intro v5 w4 T; try simp only [Act.put, List.setIfInBounds_toArray, List.set_cons_succ, List.set_cons_zero]) | ((with_reducible refine app_bool rfl _ _ rfl T _ rfl rfl ?_ ?_); (focus simp); intro v6 w4 T; try simp only [Act.put, List.setIfInBounds_toArray, List.set_cons_succ, List.set_cons_zero]) | (go_at_call 48; refine (rlistP_c T rfl (by simp) (by simp)).mono ?_; rintro e w2 ⟨v, rfl, hown, hb2⟩; dsimp only))
  go_ret
  exact ⟨_, rfl, hown, hb2⟩
set_option maxRecDepth 8000 in
set_option maxHeartbeats 2000000 in
theorem rd_7 (S D N M A I J U F C Y : Int) (G X O L : Bool) (hR : rightB ⟨7, S, D, N, M, A, I, J, U, F, C, Y, G, X, O, L⟩ = true) (w : World) :
    Calls Tryz.prog 17 #[Ins.val ⟨7, S, D, N, M, A, I, J, U, F, C, Y, G, X, O, L⟩] w fun e w' => ∃ v, e = .returned v ∧ w'.ownsRow w.heap.size 3 1 v (listL (setAt [N, M] [spN (⟨7, S, D, N, M, A, I, J, U, F, C, Y, G, X, O, L⟩ : Ins), false]) 32).length (listV (setAt [N, M] [spN (⟨7, S, D, N, M, A, I, J, U, F, C, Y, G, X, O, L⟩ : Ins), false]) 32) ∧ Below w.heap.size w w' := by
  have T : Pair ⟨7, S, D, N, M, A, I, J, U, F, C, Y, G, X, O, L⟩ w [] [] (.slice none 0 0) (.slice none 0 0) (w.alloc (.cells (Ins.cells ⟨7, S, D, N, M, A, I, J, U, F, C, Y, G, X, O, L⟩) 23)) := ⟨one_start _ w, World.ownsRow_nil _ _ _ _, World.ownsRow_nil _ _ _ _⟩
  have en : hasB (shapeS 7) 110 = true := by decide +kernel
  have em : hasB (shapeS 7) 109 = true := by decide +kernel
  have ea : hasB (shapeS 7) 97 = false := by decide +kernel
  go_enter Tryz.func17, Tryz.ntmps17
  go_wp2_with (first | (refine wpList_load_if rfl 23 _ rfl w.heap.size rfl 23 _ (0, 0) _ T.one.box Tryz.underlying23 rfl (by kernel_rfl) ?_; simp only [Act.put, List.setIfInBounds_toArray, List.set_cons_succ, List.set_cons_zero]) | ((with_reducible refine wpList_load_cell rfl 3 _ rfl _ _ rfl _ (T.one.at _ _ rfl) (agg3 _) ?_); simp only [Act.put, List.setIfInBounds_toArray, List.set_cons_succ, List.set_cons_zero]) | (go_at_call 5; refine (rright_c (⟨7, S, D, N, M, A, I, J, U, F, C, Y, G, X, O, L⟩ : Ins) _).mono ?_; rw [hR]; rintro e w2 ⟨rfl, hb2⟩; replace T := T.grow hb2; clear hb2; dsimp only) | (go_at_call 46; refine (shape_c 7 _).mono ?_; rintro e w2 ⟨rfl, rfl⟩) | (go_at_call 47; refine (rhas_c (shapeS 7) _ (by decide) _).mono ?_; (first | rw [en] | rw [em] | rw [ea]); rintro e w2 ⟨rfl, rfl⟩) | (go_at_call 31; refine (rspN_c (⟨7, S, D, N, M, A, I, J, U, F, C, Y, G, X, O, L⟩ : Ins) _).mono ?_; rintro e w2 ⟨rfl, hb2⟩; replace T := T.grow hb2; clear hb2; dsimp only) | ((with_reducible refine app_int rfl _ _ rfl T _ rfl rfl ?_ ?_); (focus simp); intro v5 w4 T; try simp only [Act.put, List.setIfInBounds_toArray, List.set_cons_succ, List.set_cons_zero]) | ((with_reducible refine app_bool rfl _ _ rfl T _ rfl rfl ?_ ?_); (focus simp); intro v6 w4 T; try simp only [Act.put, List.setIfInBounds_toArray, List.set_cons_succ, List.set_cons_zero]) | (go_at_call 48; refine (rlistP_c T rfl (by simp) (by simp)).mono ?_; rintro e w2 ⟨v, rfl, hown, hb2⟩; dsimp only))
  go_ret
  exact ⟨_, rfl, hown, hb2⟩
set_option maxRecDepth 8000 in
set_option maxHeartbeats 2000000 in
theorem rd_10 (S D N M A I J U F C Y : Int) (G X O L : Bool) (hR : rightB ⟨10, S, D, N, M, A, I, J, U, F, C, Y, G, X, O, L⟩ = true) (w : World) :
    Calls Tryz.prog 17 #[Ins.val ⟨10, S, D, N, M, A, I, J, U, F, C, Y, G, X, O, L⟩] w fun e w' => ∃ v, e = .returned v ∧ w'.ownsRow w.heap.size 3 1 v (listL (setAt [N, M] [spN (⟨10, S, D, N, M, A, I, J, U, F, C, Y, G, X, O, L⟩ : Ins), false]) 32).length (listV (setAt [N, M] [spN (⟨10, S, D, N, M, A, I, J, U, F, C, Y, G, X, O, L⟩ : Ins), false]) 32) ∧ Below w.heap.size w w' := by
  have T : Pair ⟨10, S, D, N, M, A, I, J, U, F, C, Y, G, X, O, L⟩ w [] [] (.slice none 0 0) (.slice none 0 0) (w.alloc (.cells (Ins.cells ⟨10, S, D, N, M, A, I, J, U, F, C, Y, G, X, O, L⟩) 23)) := ⟨one_start _ w, World.ownsRow_nil _ _ _ _, World.ownsRow_nil _ _ _ _⟩
  have en : hasB (shapeS 10) 110 = true := by decide +kernel
  have em : hasB (shapeS 10) 109 = true := by decide +kernel
  have ea : hasB (shapeS 10) 97 = false := by decide +kernel
  go_enter Tryz.func17, Tryz.ntmps17
  go_wp2_with (first | (refine wpList_load_if rfl 23 _ rfl w.heap.size rfl 23 _ (0, 0) _ T.one.box Tryz.underlying23 rfl (by kernel_rfl) ?_; simp only [Act.put, List.setIfInBounds_toArray, List.set_cons_succ, List.set_cons_zero]) | ((with_reducible refine wpList_load_cell rfl 3 _ rfl _ _ rfl _ (T.one.at _ _ rfl) (agg3 _) ?_); simp only [Act.put, List.setIfInBounds_toArray, List.set_cons_succ, List.set_cons_zero]) | (go_at_call 5; refine (rright_c (⟨10, S, D, N, M, A, I, J, U, F, C, Y, G, X, O, L⟩ : Ins) _).mono ?_; rw [hR]; rintro e w2 ⟨rfl, hb2⟩; replace T := T.grow hb2; clear hb2; dsimp only) | (go_at_call 46; refine (shape_c 10 _).mono ?_; rintro e w2 ⟨rfl, rfl⟩) | (go_at_call 47; refine (rhas_c (shapeS 10) _ (by decide) _).mono ?_; (first | rw [en] | rw [em] | rw [ea]); rintro e w2 ⟨rfl, rfl⟩) | (go_at_call 31; refine (rspN_c (⟨10, S, D, N, M, A, I, J, U, F, C, Y, G, X, O, L⟩ : Ins) _).mono ?_; rintro e w2 ⟨rfl, hb2⟩; replace T := T.grow hb2; clear hb2; dsimp only) | ((with_reducible refine app_int rfl _ _ rfl T _ rfl rfl ?_ ?_); (focus simp); intro v5 w4 T; try simp only [Act.put, List.setIfInBounds_toArray, List.set_cons_succ, List.set_cons_zero]) | ((with_reducible refine app_bool rfl _ _ rfl T _ rfl rfl ?_ ?_); (focus simp); intro v6 w4 T; try simp only [Act.put, List.setIfInBounds_toArray, List.set_cons_succ, List.set_cons_zero]) | (go_at_call 48; refine (rlistP_c T rfl (by simp) (by simp)).mono ?_; rintro e w2 ⟨v, rfl, hown, hb2⟩; dsimp only))
  go_ret
  exact ⟨_, rfl, hown, hb2⟩
set_option maxRecDepth 8000 in
set_option maxHeartbeats 2000000 in
theorem rd_13 (S D N M A I J U F C Y : Int) (G X O L : Bool) (hR : rightB ⟨13, S, D, N, M, A, I, J, U, F, C, Y, G, X, O, L⟩ = true) (w : World) :
    Calls Tryz.prog 17 #[Ins.val ⟨13, S, D, N, M, A, I, J, U, F, C, Y, G, X, O, L⟩] w fun e w' => ∃ v, e = .returned v ∧ w'.ownsRow w.heap.size 3 1 v (listL (setAt [] []) 32).length (listV (setAt [] []) 32) ∧ Below w.heap.size w w' := by
  have T : Pair ⟨13, S, D, N, M, A, I, J, U, F, C, Y, G, X, O, L⟩ w [] [] (.slice none 0 0) (.slice none 0 0) (w.alloc (.cells (Ins.cells ⟨13, S, D, N, M, A, I, J, U, F, C, Y, G, X, O, L⟩) 23)) := ⟨one_start _ w, World.ownsRow_nil _ _ _ _, World.ownsRow_nil _ _ _ _⟩
  have en : hasB (shapeS 13) 110 = false := by decide +kernel
  have em : hasB (shapeS 13) 109 = false := by decide +kernel
  have ea : hasB (shapeS 13) 97 = false := by decide +kernel
  go_enter Tryz.func17, Tryz.ntmps17
  go_wp2_with (first | (refine wpList_load_if rfl 23 _ rfl w.heap.size rfl 23 _ (0, 0) _ T.one.box Tryz.underlying23 rfl (by kernel_rfl) ?_; simp only [Act.put, List.setIfInBounds_toArray, List.set_cons_succ, List.set_cons_zero]) | ((with_reducible refine wpList_load_cell rfl 3 _ rfl _ _ rfl _ (T.one.at _ _ rfl) (agg3 _) ?_); simp only [Act.put, List.setIfInBounds_toArray, List.set_cons_succ, List.set_cons_zero]) | (go_at_call 5; refine (rright_c (⟨13, S, D, N, M, A, I, J, U, F, C, Y, G, X, O, L⟩ : Ins) _).mono ?_; rw [hR]; rintro e w2 ⟨rfl, hb2⟩; replace T := T.grow hb2; clear hb2; dsimp only) | (go_at_call 46; refine (shape_c 13 _).mono ?_; rintro e w2 ⟨rfl, rfl⟩) | (go_at_call 47; refine (rhas_c (shapeS 13) _ (by decide) _).mono ?_; (first | rw [en] | rw [em] | rw [ea]); rintro e w2 ⟨rfl, rfl⟩) | (go_at_call 31; refine (rspN_c (⟨13, S, D, N, M, A, I, J, U, F, C, Y, G, X, O, L⟩ : Ins) _).mono ?_; rintro e w2 ⟨rfl, hb2⟩; replace T := T.grow hb2; clear hb2; dsimp only) | ((with_reducible refine app_int rfl _ _ rfl T _ rfl rfl ?_ ?_); (focus simp); intro v5 w4 T; try simp only [Act.put, List.setIfInBounds_toArray, List.set_cons_succ, List.set_cons_zero]) | ((with_reducible refine app_bool rfl _ _ rfl T _ rfl rfl ?_ ?_); (focus simp); intro v6 w4 T; try simp only [Act.put, List.setIfInBounds_toArray, List.set_cons_succ, List.set_cons_zero]) | (go_at_call 48; refine (rlist_nil _).mono ?_; rintro e w2 ⟨rfl, rfl⟩))
  go_ret
  refine ⟨_, rfl, ?_, T.one.below⟩
  rw [set_none2]
  exact World.ownsRow_nil _ _ _ _
set_option maxRecDepth 8000 in
set_option maxHeartbeats 2000000 in
theorem rd_16 (S D N M A I J U F C Y : Int) (G X O L : Bool) (hR : rightB ⟨16, S, D, N, M, A, I, J, U, F, C, Y, G, X, O, L⟩ = true) (w : World) :
    Calls Tryz.prog 17 #[Ins.val ⟨16, S, D, N, M, A, I, J, U, F, C, Y, G, X, O, L⟩] w fun e w' => ∃ v, e = .returned v ∧ w'.ownsRow w.heap.size 3 1 v (listL (setAt [N] [spN (⟨16, S, D, N, M, A, I, J, U, F, C, Y, G, X, O, L⟩ : Ins)]) 32).length (listV (setAt [N] [spN (⟨16, S, D, N, M, A, I, J, U, F, C, Y, G, X, O, L⟩ : Ins)]) 32) ∧ Below w.heap.size w w' := by
  have T : Pair ⟨16, S, D, N, M, A, I, J, U, F, C, Y, G, X, O, L⟩ w [] [] (.slice none 0 0) (.slice none 0 0) (w.alloc (.cells (Ins.cells ⟨16, S, D, N, M, A, I, J, U, F, C, Y, G, X, O, L⟩) 23)) := ⟨one_start _ w, World.ownsRow_nil _ _ _ _, World.ownsRow_nil _ _ _ _⟩
  have en : hasB (shapeS 16) 110 = true := by decide +kernel
  have em : hasB (shapeS 16) 109 = false := by decide +kernel
  have ea : hasB (shapeS 16) 97 = false := by decide +kernel
  go_enter Tryz.func17, Tryz.ntmps17
  go_wp2_with (first | (refine wpList_load_if rfl 23 _ rfl w.heap.size rfl 23 _ (0, 0) _ T.one.box Tryz.underlying23 rfl (by kernel_rfl) ?_; simp only [Act.put, List.setIfInBounds_toArray, List.set_cons_succ, List.set_cons_zero]) | ((with_reducible refine wpList_load_cell rfl 3 _ rfl _ _ rfl _ (T.one.at _ _ rfl) (agg3 _) ?_); simp only [Act.put, List.setIfInBounds_toArray, List.set_cons_succ, List.set_cons_zero]) | (go_at_call 5; refine (rright_c (⟨16, S, D, N, M, A, I, J, U, F, C, Y, G, X, O, L⟩ : Ins) _).mono ?_; rw [hR]; rintro e w2 ⟨rfl, hb2⟩; replace T := T.grow hb2; clear hb2; dsimp only) | (go_at_call 46; refine (shape_c 16 _).mono ?_; rintro e w2 ⟨rfl, rfl⟩) | (go_at_call 47; refine (rhas_c (shapeS 16) _ (by decide) _).mono ?_; (first | rw [en] | rw [em] | rw [ea]); rintro e w2 ⟨rfl, rfl⟩) | (go_at_call 31; refine (rspN_c (⟨16, S, D, N, M, A, I, J, U, F, C, Y, G, X, O, L⟩ : Ins) _).mono ?_; rintro e w2 ⟨rfl, hb2⟩; replace T := T.grow hb2; clear hb2; dsimp only) | ((with_reducible refine app_int rfl _ _ rfl T _ rfl rfl ?_ ?_); (focus simp); intro v5 w4 T; try simp only [Act.put, List.setIfInBounds_toArray, List.set_cons_succ, List.set_cons_zero]) | ((with_reducible refine app_bool rfl _ _ rfl T _ rfl rfl ?_ ?_); (focus simp); intro v6 w4 T; try simp only [Act.put, List.setIfInBounds_toArray, List.set_cons_succ, List.set_cons_zero]) | (go_at_call 48; refine (rlistP_c T rfl (by simp) (by simp)).mono ?_; rintro e w2 ⟨v, rfl, hown, hb2⟩; dsimp only))
  go_ret
  exact ⟨_, rfl, hown, hb2⟩
set_option maxRecDepth 8000 in
set_option maxHeartbeats 2000000 in
theorem rd_19 (S D N M A I J U F C Y : Int) (G X O L : Bool) (hR : rightB ⟨19, S, D, N, M, A, I, J, U, F, C, Y, G, X, O, L⟩ = true) (w : World) :
    Calls Tryz.prog 17 #[Ins.val ⟨19, S, D, N, M, A, I, J, U, F, C, Y, G, X, O, L⟩] w fun e w' => ∃ v, e = .returned v ∧ w'.ownsRow w.heap.size 3 1 v (listL (setAt [N, M] [spN (⟨19, S, D, N, M, A, I, J, U, F, C, Y, G, X, O, L⟩ : Ins), false]) 32).length (listV (setAt [N, M] [spN (⟨19, S, D, N, M, A, I, J, U, F, C, Y, G, X, O, L⟩ : Ins), false]) 32) ∧ Below w.heap.size w w' := by
  have T : Pair ⟨19, S, D, N, M, A, I, J, U, F, C, Y, G, X, O, L⟩ w [] [] (.slice none 0 0) (.slice none 0 0) (w.alloc (.cells (Ins.cells ⟨19, S, D, N, M, A, I, J, U, F, C, Y, G, X, O, L⟩) 23)) := ⟨one_start _ w, World.ownsRow_nil _ _ _ _, World.ownsRow_nil _ _ _ _⟩
  have en : hasB (shapeS 19) 110 = true := by decide +kernel
  have em : hasB (shapeS 19) 109 = true := by decide +kernel
  have ea : hasB (shapeS 19) 97 = false := by decide +kernel
  go_enter Tryz.func17, Tryz.ntmps17
  go_wp2_with (first | (refine wpList_load_if rfl 23 _ rfl w.heap.size rfl 23 _ (0, 0) _ T.one.box Tryz.underlying23 rfl (by kernel_rfl) ?_; simp only [Act.put, List.setIfInBounds_toArray, List.set_cons_succ, List.set_cons_zero]) | ((with_reducible refine wpList_load_cell rfl 3 _ rfl _ _ rfl _ (T.one.at _ _ rfl) (agg3 _) ?_); simp only [Act.put, List.setIfInBounds_toArray, List.set_cons_succ, List.set_cons_zero]) | (go_at_call 5; refine (rright_c (⟨19, S, D, N, M, A, I, J, U, F, C, Y, G, X, O, L⟩ : Ins) _).mono ?_; rw [hR]; rintro e w2 ⟨rfl, hb2⟩; replace T := T.grow hb2; clear hb2; dsimp only) | (go_at_call 46; refine (shape_c 19 _).mono ?_; rintro e w2 ⟨rfl, rfl⟩) | (go_at_call 47; refine (rhas_c (shapeS 19) _ (by decide) _).mono ?_; (first | rw [en] | rw [em] | rw [ea]); rintro e w2 ⟨rfl, rfl⟩) | (go_at_call 31; refine (rspN_c (⟨19, S, D, N, M, A, I, J, U, F, C, Y, G, X, O, L⟩ : Ins) _).mono ?_; rintro e w2 ⟨rfl, hb2⟩; replace T := T.grow hb2; clear hb2; dsimp only) | ((with_reducible refine app_int rfl _ _ rfl T _ rfl rfl ?_ ?_); (focus simp); intro v5 w4 T; try simp only [Act.put, List.setIfInBounds_toArray, List.set_cons_succ, List.set_cons_zero]) | ((with_reducible refine app_bool rfl _ _ rfl T _ rfl rfl ?_ ?_); (focus simp); intro v6 w4 T; try simp only [Act.put, List.setIfInBounds_toArray, List.set_cons_succ, List.set_cons_zero]) | (go_at_call 48; refine (rlistP_c T rfl (by simp) (by simp)).mono ?_; rintro e w2 ⟨v, rfl, hown, hb2⟩; dsimp only))
  go_ret
  exact ⟨_, rfl, hown, hb2⟩
set_option maxRecDepth 8000 in
set_option maxHeartbeats 2000000 in
theorem rd_22 (S D N M A I J U F C Y : Int) (G X O L : Bool) (hR : rightB ⟨22, S, D, N, M, A, I, J, U, F, C, Y, G, X, O, L⟩ = true) (w : World) :
    Calls Tryz.prog 17 #[Ins.val ⟨22, S, D, N, M, A, I, J, U, F, C, Y, G, X, O, L⟩] w fun e w' => ∃ v, e = .returned v ∧ w'.ownsRow w.heap.size 3 1 v (listL (setAt [N, D] [spN (⟨22, S, D, N, M, A, I, J, U, F, C, Y, G, X, O, L⟩ : Ins), false]) 32).length (listV (setAt [N, D] [spN (⟨22, S, D, N, M, A, I, J, U, F, C, Y, G, X, O, L⟩ : Ins), false]) 32) ∧ Below w.heap.size w w' := by
  have T : Pair ⟨22, S, D, N, M, A, I, J, U, F, C, Y, G, X, O, L⟩ w [] [] (.slice none 0 0) (.slice none 0 0) (w.alloc (.cells (Ins.cells ⟨22, S, D, N, M, A, I, J, U, F, C, Y, G, X, O, L⟩) 23)) := ⟨one_start _ w, World.ownsRow_nil _ _ _ _, World.ownsRow_nil _ _ _ _⟩
  have en : hasB (shapeS 22) 110 = true := by decide +kernel
  have em : hasB (shapeS 22) 109 = false := by decide +kernel
  have ea : hasB (shapeS 22) 97 = false := by decide +kernel
  go_enter Tryz.func17, Tryz.ntmps17
  go_wp2_with (first | (refine wpList_load_if rfl 23 _ rfl w.heap.size rfl 23 _ (0, 0) _ T.one.box Tryz.underlying23 rfl (by kernel_rfl) ?_; simp only [Act.put, List.setIfInBounds_toArray, List.set_cons_succ, List.set_cons_zero]) | ((with_reducible refine wpList_load_cell rfl 3 _ rfl _ _ rfl _ (T.one.at _ _ rfl) (agg3 _) ?_); simp only [Act.put, List.setIfInBounds_toArray, List.set_cons_succ, List.set_cons_zero]) | (go_at_call 5; refine (rright_c (⟨22, S, D, N, M, A, I, J, U, F, C, Y, G, X, O, L⟩ : Ins) _).mono ?_; rw [hR]; rintro e w2 ⟨rfl, hb2⟩; replace T := T.grow hb2; clear hb2; dsimp only) | (go_at_call 46; refine (shape_c 22 _).mono ?_; rintro e w2 ⟨rfl, rfl⟩) | (go_at_call 47; refine (rhas_c (shapeS 22) _ (by decide) _).mono ?_; (first | rw [en] | rw [em] | rw [ea]); rintro e w2 ⟨rfl, rfl⟩) | (go_at_call 31; refine (rspN_c (⟨22, S, D, N, M, A, I, J, U, F, C, Y, G, X, O, L⟩ : Ins) _).mono ?_; rintro e w2 ⟨rfl, hb2⟩; replace T := T.grow hb2; clear hb2; dsimp only) | ((with_reducible refine app_int rfl _ _ rfl T _ rfl rfl ?_ ?_); (focus simp); intro v5 w4 T; try simp only [Act.put, List.setIfInBounds_toArray, List.set_cons_succ, List.set_cons_zero]) | ((with_reducible refine app_bool rfl _ _ rfl T _ rfl rfl ?_ ?_); (focus simp); intro v6 w4 T; try simp only [Act.put, List.setIfInBounds_toArray, List.set_cons_succ, List.set_cons_zero]) | (go_at_call 48; refine (rlistP_c T rfl (by simp) (by simp)).mono ?_; rintro e w2 ⟨v, rfl, hown, hb2⟩; dsimp only))
  go_ret
  exact ⟨_, rfl, hown, hb2⟩
set_option maxRecDepth 8000 in
set_option maxHeartbeats 2000000 in
theorem rd_25 (S D N M A I J U F C Y : Int) (G X O L : Bool) (hR : rightB ⟨25, S, D, N, M, A, I, J, U, F, C, Y, G, X, O, L⟩ = true) (w : World) :
    Calls Tryz.prog 17 #[Ins.val ⟨25, S, D, N, M, A, I, J, U, F, C, Y, G, X, O, L⟩] w fun e w' => ∃ v, e = .returned v ∧ w'.ownsRow w.heap.size 3 1 v (listL (setAt [] []) 32).length (listV (setAt [] []) 32) ∧ Below w.heap.size w w' := by
  have T : Pair ⟨25, S, D, N, M, A, I, J, U, F, C, Y, G, X, O, L⟩ w [] [] (.slice none 0 0) (.slice none 0 0) (w.alloc (.cells (Ins.cells ⟨25, S, D, N, M, A, I, J, U, F, C, Y, G, X, O, L⟩) 23)) := ⟨one_start _ w, World.ownsRow_nil _ _ _ _, World.ownsRow_nil _ _ _ _⟩
  have en : hasB (shapeS 25) 110 = false := by decide +kernel
  have em : hasB (shapeS 25) 109 = false := by decide +kernel
  have ea : hasB (shapeS 25) 97 = false := by decide +kernel
  go_enter Tryz.func17, Tryz.ntmps17
  go_wp2_with (first | (refine wpList_load_if rfl 23 _ rfl w.heap.size rfl 23 _ (0, 0) _ T.one.box Tryz.underlying23 rfl (by kernel_rfl) ?_; simp only [Act.put, List.setIfInBounds_toArray, List.set_cons_succ, List.set_cons_zero]) | ((with_reducible refine wpList_load_cell rfl 3 _ rfl _ _ rfl _ (T.one.at _ _ rfl) (agg3 _) ?_); simp only [Act.put, List.setIfInBounds_toArray, List.set_cons_succ, List.set_cons_zero]) | (go_at_call 5; refine (rright_c (⟨25, S, D, N, M, A, I, J, U, F, C, Y, G, X, O, L⟩ : Ins) _).mono ?_; rw [hR]; rintro e w2 ⟨rfl, hb2⟩; replace T := T.grow hb2; clear hb2; dsimp only) | (go_at_call 46; refine (shape_c 25 _).mono ?_; rintro e w2 ⟨rfl, rfl⟩) | (go_at_call 47; refine (rhas_c (shapeS 25) _ (by decide) _).mono ?_; (first | rw [en] | rw [em] | rw [ea]); rintro e w2 ⟨rfl, rfl⟩) | (go_at_call 31; refine (rspN_c (⟨25, S, D, N, M, A, I, J, U, F, C, Y, G, X, O, L⟩ : Ins) _).mono ?_; rintro e w2 ⟨rfl, hb2⟩; replace T := T.grow hb2; clear hb2; dsimp only) | ((with_reducible refine app_int rfl _ _ rfl T _ rfl rfl ?_ ?_); (focus simp); intro v5 w4 T; try simp only [Act.put, List.setIfInBounds_toArray, List.set_cons_succ, List.set_cons_zero]) | ((with_reducible refine app_bool rfl _ _ rfl T _ rfl rfl ?_ ?_); (focus simp); intro v6 w4 T; try simp only [Act.put, List.setIfInBounds_toArray, List.set_cons_succ, List.set_cons_zero]) | (go_at_call 48; refine (rlist_nil _).mono ?_; rintro e w2 ⟨rfl, rfl⟩))
  go_ret
  refine ⟨_, rfl, ?_, T.one.below⟩
  rw [set_none2]
  exact World.ownsRow_nil _ _ _ _
set_option maxRecDepth 8000 in
set_option maxHeartbeats 2000000 in
theorem rd_28 (S D N M A I J U F C Y : Int) (G X O L : Bool) (hR : rightB ⟨28, S, D, N, M, A, I, J, U, F, C, Y, G, X, O, L⟩ = true) (w : World) :
    Calls Tryz.prog 17 #[Ins.val ⟨28, S, D, N, M, A, I, J, U, F, C, Y, G, X, O, L⟩] w fun e w' => ∃ v, e = .returned v ∧ w'.ownsRow w.heap.size 3 1 v (listL (setAt [D] [false]) 32).length (listV (setAt [D] [false]) 32) ∧ Below w.heap.size w w' := by
  have T : Pair ⟨28, S, D, N, M, A, I, J, U, F, C, Y, G, X, O, L⟩ w [] [] (.slice none 0 0) (.slice none 0 0) (w.alloc (.cells (Ins.cells ⟨28, S, D, N, M, A, I, J, U, F, C, Y, G, X, O, L⟩) 23)) := ⟨one_start _ w, World.ownsRow_nil _ _ _ _, World.ownsRow_nil _ _ _ _⟩
  have en : hasB (shapeS 28) 110 = false := by decide +kernel
  have em : hasB (shapeS 28) 109 = false := by decide +kernel
  have ea : hasB (shapeS 28) 97 = false := by decide +kernel
  go_enter Tryz.func17, Tryz.ntmps17
  go_wp2_with (first | (refine wpList_load_if rfl 23 _ rfl w.heap.size rfl 23 _ (0, 0) _ T.one.box Tryz.underlying23 rfl (by kernel_rfl) ?_; simp only [Act.put, List.setIfInBounds_toArray, List.set_cons_succ, List.set_cons_zero]) | ((with_reducible refine wpList_load_cell rfl 3 _ rfl _ _ rfl _ (T.one.at _ _ rfl) (agg3 _) ?_); simp only [Act.put, List.setIfInBounds_toArray, List.set_cons_succ, List.set_cons_zero]) | (go_at_call 5; refine (rright_c (⟨28, S, D, N, M, A, I, J, U, F, C, Y, G, X, O, L⟩ : Ins) _).mono ?_; rw [hR]; rintro e w2 ⟨rfl, hb2⟩; replace T := T.grow hb2; clear hb2; dsimp only) | (go_at_call 46; refine (shape_c 28 _).mono ?_; rintro e w2 ⟨rfl, rfl⟩) | (go_at_call 47; refine (rhas_c (shapeS 28) _ (by decide) _).mono ?_; (first | rw [en] | rw [em] | rw [ea]); rintro e w2 ⟨rfl, rfl⟩) | (go_at_call 31; refine (rspN_c (⟨28, S, D, N, M, A, I, J, U, F, C, Y, G, X, O, L⟩ : Ins) _).mono ?_; rintro e w2 ⟨rfl, hb2⟩; replace T := T.grow hb2; clear hb2; dsimp only) | ((with_reducible refine app_int rfl _ _ rfl T _ rfl rfl ?_ ?_); (focus simp); intro v5 w4 T; try simp only [Act.put, List.setIfInBounds_toArray, List.set_cons_succ, List.set_cons_zero]) | ((with_reducible refine app_bool rfl _ _ rfl T _ rfl rfl ?_ ?_); (focus simp); intro v6 w4 T; try simp only [Act.put, List.setIfInBounds_toArray, List.set_cons_succ, List.set_cons_zero]) | (go_at_call 48; refine (rlistP_c T rfl (by simp) (by simp)).mono ?_; rintro e w2 ⟨v, rfl, hown, hb2⟩; dsimp only))
  go_ret
  exact ⟨_, rfl, hown, hb2⟩
set_option maxRecDepth 8000 in
set_option maxHeartbeats 2000000 in
theorem rd_31 (S D N M A I J U F C Y : Int) (G X O L : Bool) (hR : rightB ⟨31, S, D, N, M, A, I, J, U, F, C, Y, G, X, O, L⟩ = true) (w : World) :
    Calls Tryz.prog 17 #[Ins.val ⟨31, S, D, N, M, A, I, J, U, F, C, Y, G, X, O, L⟩] w fun e w' => ∃ v, e = .returned v ∧ w'.ownsRow w.heap.size 3 1 v (listL (setAt [] []) 32).length (listV (setAt [] []) 32) ∧ Below w.heap.size w w' := by
  have T : Pair ⟨31, S, D, N, M, A, I, J, U, F, C, Y, G, X, O, L⟩ w [] [] (.slice none 0 0) (.slice none 0 0) (w.alloc (.cells (Ins.cells ⟨31, S, D, N, M, A, I, J, U, F, C, Y, G, X, O, L⟩) 23)) := ⟨one_start _ w, World.ownsRow_nil _ _ _ _, World.ownsRow_nil _ _ _ _⟩
  have en : hasB (shapeS 31) 110 = false := by decide +kernel
  have em : hasB (shapeS 31) 109 = false := by decide +kernel
  have ea : hasB (shapeS 31) 97 = false := by decide +kernel
  go_enter Tryz.func17, Tryz.ntmps17
  go_wp2_with (first | (refine wpList_load_if rfl 23 _ rfl w.heap.size rfl 23 _ (0, 0) _ T.one.box Tryz.underlying23 rfl (by kernel_rfl) ?_; simp only [Act.put, List.setIfInBounds_toArray, List.set_cons_succ, List.set_cons_zero]) | ((with_reducible refine wpList_load_cell rfl 3 _ rfl _ _ rfl _ (T.one.at _ _ rfl) (agg3 _) ?_); simp only [Act.put, List.setIfInBounds_toArray, List.set_cons_succ, List.set_cons_zero]) | (go_at_call 5; refine (rright_c (⟨31, S, D, N, M, A, I, J, U, F, C, Y, G, X, O, L⟩ : Ins) _).mono ?_; rw [hR]; rintro e w2 ⟨rfl, hb2⟩; replace T := T.grow hb2; clear hb2; dsimp only) | (go_at_call 46; refine (shape_c 31 _).mono ?_; rintro e w2 ⟨rfl, rfl⟩) | (go_at_call 47; refine (rhas_c (shapeS 31) _ (by decide) _).mono ?_; (first | rw [en] | rw [em] | rw [ea]); rintro e w2 ⟨rfl, rfl⟩) | (go_at_call 31; refine (rspN_c (⟨31, S, D, N, M, A, I, J, U, F, C, Y, G, X, O, L⟩ : Ins) _).mono ?_; rintro e w2 ⟨rfl, hb2⟩; replace T := T.grow hb2; clear hb2; dsimp only) | ((with_reducible refine app_int rfl _ _ rfl T _ rfl rfl ?_ ?_); (focus simp); intro v5 w4 T; try simp only [Act.put, List.setIfInBounds_toArray, List.set_cons_succ, List.set_cons_zero]) | ((with_reducible refine app_bool rfl _ _ rfl T _ rfl rfl ?_ ?_); (focus simp); intro v6 w4 T; try simp only [Act.put, List.setIfInBounds_toArray, List.set_cons_succ, List.set_cons_zero]) | (go_at_call 48; refine (rlist_nil _).mono ?_; rintro e w2 ⟨rfl, rfl⟩))
  go_ret
  refine ⟨_, rfl, ?_, T.one.below⟩
  rw [set_none2]
  exact World.ownsRow_nil _ _ _ _
set_option maxRecDepth 8000 in
set_option maxHeartbeats 2000000 in
theorem rd_34 (S D N M A I J U F C Y : Int) (G X O L : Bool) (hR : rightB ⟨34, S, D, N, M, A, I, J, U, F, C, Y, G, X, O, L⟩ = true) (w : World) :
    Calls Tryz.prog 17 #[Ins.val ⟨34, S, D, N, M, A, I, J, U, F, C, Y, G, X, O, L⟩] w fun e w' => ∃ v, e = .returned v ∧ w'.ownsRow w.heap.size 3 1 v (listL (setAt [] []) 32).length (listV (setAt [] []) 32) ∧ Below w.heap.size w w' := by
  have T : Pair ⟨34, S, D, N, M, A, I, J, U, F, C, Y, G, X, O, L⟩ w [] [] (.slice none 0 0) (.slice none 0 0) (w.alloc (.cells (Ins.cells ⟨34, S, D, N, M, A, I, J, U, F, C, Y, G, X, O, L⟩) 23)) := ⟨one_start _ w, World.ownsRow_nil _ _ _ _, World.ownsRow_nil _ _ _ _⟩
  have en : hasB (shapeS 34) 110 = false := by decide +kernel
  have em : hasB (shapeS 34) 109 = false := by decide +kernel
  have ea : hasB (shapeS 34) 97 = false := by decide +kernel
  go_enter Tryz.func17, Tryz.ntmps17
  go_wp2_with (first | (refine wpList_load_if rfl 23 _ rfl w.heap.size rfl 23 _ (0, 0) _ T.one.box Tryz.underlying23 rfl (by kernel_rfl) ?_; simp only [Act.put, List.setIfInBounds_toArray, List.set_cons_succ, List.set_cons_zero]) | ((with_reducible refine wpList_load_cell rfl 3 _ rfl _ _ rfl _ (T.one.at _ _ rfl) (agg3 _) ?_); simp only [Act.put, List.setIfInBounds_toArray, List.set_cons_succ, List.set_cons_zero]) | (go_at_call 5; refine (rright_c (⟨34, S, D, N, M, A, I, J, U, F, C, Y, G, X, O, L⟩ : Ins) _).mono ?_; rw [hR]; rintro e w2 ⟨rfl, hb2⟩; replace T := T.grow hb2; clear hb2; dsimp only) | (go_at_call 46; refine (shape_c 34 _).mono ?_; rintro e w2 ⟨rfl, rfl⟩) | (go_at_call 47; refine (rhas_c (shapeS 34) _ (by decide) _).mono ?_; (first | rw [en] | rw [em] | rw [ea]); rintro e w2 ⟨rfl, rfl⟩) | (go_at_call 31; refine (rspN_c (⟨34, S, D, N, M, A, I, J, U, F, C, Y, G, X, O, L⟩ : Ins) _).mono ?_; rintro e w2 ⟨rfl, hb2⟩; replace T := T.grow hb2; clear hb2; dsimp only) | ((with_reducible refine app_int rfl _ _ rfl T _ rfl rfl ?_ ?_); (focus simp); intro v5 w4 T; try simp only [Act.put, List.setIfInBounds_toArray, List.set_cons_succ, List.set_cons_zero]) | ((with_reducible refine app_bool rfl _ _ rfl T _ rfl rfl ?_ ?_); (focus simp); intro v6 w4 T; try simp only [Act.put, List.setIfInBounds_toArray, List.set_cons_succ, List.set_cons_zero]) | (go_at_call 48; refine (rlist_nil _).mono ?_; rintro e w2 ⟨rfl, rfl⟩))
  go_ret
  refine ⟨_, rfl, ?_, T.one.below⟩
  rw [set_none2]
  exact World.ownsRow_nil _ _ _ _
set_option maxRecDepth 8000 in
set_option maxHeartbeats 2000000 in
theorem rd_37 (S D N M A I J U F C Y : Int) (G X O L : Bool) (hR : rightB ⟨37, S, D, N, M, A, I, J, U, F, C, Y, G, X, O, L⟩ = true) (w : World) :
    Calls Tryz.prog 17 #[Ins.val ⟨37, S, D, N, M, A, I, J, U, F, C, Y, G, X, O, L⟩] w fun e w' => ∃ v, e = .returned v ∧ w'.ownsRow w.heap.size 3 1 v (listL (setAt [] []) 32).length (listV (setAt [] []) 32) ∧ Below w.heap.size w w' := by
  have T : Pair ⟨37, S, D, N, M, A, I, J, U, F, C, Y, G, X, O, L⟩ w [] [] (.slice none 0 0) (.slice none 0 0) (w.alloc (.cells (Ins.cells ⟨37, S, D, N, M, A, I, J, U, F, C, Y, G, X, O, L⟩) 23)) := ⟨one_start _ w, World.ownsRow_nil _ _ _ _, World.ownsRow_nil _ _ _ _⟩
  have en : hasB (shapeS 37) 110 = false := by decide +kernel
  have em : hasB (shapeS 37) 109 = false := by decide +kernel
  have ea : hasB (shapeS 37) 97 = false := by decide +kernel
  go_enter Tryz.func17, Tryz.ntmps17
  go_wp2_with (first | (refine wpList_load_if rfl 23 _ rfl w.heap.size rfl 23 _ (0, 0) _ T.one.box Tryz.underlying23 rfl (by kernel_rfl) ?_; simp only [Act.put, List.setIfInBounds_toArray, List.set_cons_succ, List.set_cons_zero]) | ((with_reducible refine wpList_load_cell rfl 3 _ rfl _ _ rfl _ (T.one.at _ _ rfl) (agg3 _) ?_); simp only [Act.put, List.setIfInBounds_toArray, List.set_cons_succ, List.set_cons_zero]) | (go_at_call 5; refine (rright_c (⟨37, S, D, N, M, A, I, J, U, F, C, Y, G, X, O, L⟩ : Ins) _).mono ?_; rw [hR]; rintro e w2 ⟨rfl, hb2⟩; replace T := T.grow hb2; clear hb2; dsimp only) | (go_at_call 46; refine (shape_c 37 _).mono ?_; rintro e w2 ⟨rfl, rfl⟩) | (go_at_call 47; refine (rhas_c (shapeS 37) _ (by decide) _).mono ?_; (first | rw [en] | rw [em] | rw [ea]); rintro e w2 ⟨rfl, rfl⟩) | (go_at_call 31; refine (rspN_c (⟨37, S, D, N, M, A, I, J, U, F, C, Y, G, X, O, L⟩ : Ins) _).mono ?_; rintro e w2 ⟨rfl, hb2⟩; replace T := T.grow hb2; clear hb2; dsimp only) | ((with_reducible refine app_int rfl _ _ rfl T _ rfl rfl ?_ ?_); (focus simp); intro v5 w4 T; try simp only [Act.put, List.setIfInBounds_toArray, List.set_cons_succ, List.set_cons_zero]) | ((with_reducible refine app_bool rfl _ _ rfl T _ rfl rfl ?_ ?_); (focus simp); intro v6 w4 T; try simp only [Act.put, List.setIfInBounds_toArray, List.set_cons_succ, List.set_cons_zero]) | (go_at_call 48; refine (rlist_nil _).mono ?_; rintro e w2 ⟨rfl, rfl⟩))
  go_ret
  refine ⟨_, rfl, ?_, T.one.below⟩
  rw [set_none2]
  exact World.ownsRow_nil _ _ _ _
end Go.Proofs.YtjmdgfimmjodjaaGreatDoor
