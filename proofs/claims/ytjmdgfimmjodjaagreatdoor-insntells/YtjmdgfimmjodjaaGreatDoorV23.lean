/- What instructions read, Op by Op, as the document's own answer tells: contracts. -/
import Derived.Test.YtjmdgfimmjodjaaGreatDoorV21
namespace Go.Proofs.YtjmdgfimmjodjaaGreatDoor
open Go.RowKit Go.Rel
theorem set_none1 : setAt [] [] = 0 := by decide +kernel
set_option linter.unusedVariables false
set_option maxRecDepth 8000 in
set_option maxHeartbeats 2000000 in
theorem rd_2 (S D N M A I J U F C Y : Int) (G X O L : Bool) (hR : rightB ⟨2, S, D, N, M, A, I, J, U, F, C, Y, G, X, O, L⟩ = true) (w : World) :
    Calls Tryz.prog 17 #[Ins.val ⟨2, S, D, N, M, A, I, J, U, F, C, Y, G, X, O, L⟩] w fun e w' => ∃ v, e = .returned v ∧ w'.ownsRow w.heap.size 3 1 v (listL (setAt [N, M] [spN (⟨2, S, D, N, M, A, I, J, U, F, C, Y, G, X, O, L⟩ : Ins), false]) 32).length (listV (setAt [N, M] [spN (⟨2, S, D, N, M, A, I, J, U, F, C, Y, G, X, O, L⟩ : Ins), false]) 32) ∧ Below w.heap.size w w' := by
  have T : Pair ⟨2, S, D, N, M, A, I, J, U, F, C, Y, G, X, O, L⟩ w [] [] (.slice none 0 0) (.slice none 0 0) (w.alloc (.cells (Ins.cells ⟨2, S, D, N, M, A, I, J, U, F, C, Y, G, X, O, L⟩) 23)) := ⟨one_start _ w, World.ownsRow_nil _ _ _ _, World.ownsRow_nil _ _ _ _⟩
  have en : hasB (shapeS 2) 110 = true := by decide +kernel
  have em : hasB (shapeS 2) 109 = true := by decide +kernel
  have ea : hasB (shapeS 2) 97 = false := by decide +kernel
  go_enter Tryz.func17, Tryz.ntmps17
  go_wp2_with (first | (refine wpList_load_if rfl 23 _ rfl w.heap.size rfl 23 _ (0, 0) _ T.one.box Tryz.underlying23 rfl (by kernel_rfl) ?_; simp only [Act.put, List.setIfInBounds_toArray, List.set_cons_succ, List.set_cons_zero]) | ((with_reducible refine wpList_load_cell rfl 3 _ rfl _ _ rfl _ (T.one.at _ _ rfl) (agg3 _) ?_); simp only [Act.put, List.setIfInBounds_toArray, List.set_cons_succ, List.set_cons_zero]) | (go_at_call 5; refine (rright_c (⟨2, S, D, N, M, A, I, J, U, F, C, Y, G, X, O, L⟩ : Ins) _).mono ?_; rw [hR]; rintro e w2 ⟨rfl, hb2⟩; replace T := T.grow hb2; clear hb2; dsimp only) | (go_at_call 46; refine (shape_c 2 _).mono ?_; rintro e w2 ⟨rfl, rfl⟩) | (go_at_call 47; refine (rhas_c (shapeS 2) _ (by decide) _).mono ?_; (first | rw [en] | rw [em] | rw [ea]); rintro e w2 ⟨rfl, rfl⟩) | (go_at_call 31; refine (rspN_c (⟨2, S, D, N, M, A, I, J, U, F, C, Y, G, X, O, L⟩ : Ins) _).mono ?_; rintro e w2 ⟨rfl, hb2⟩; replace T := T.grow hb2; clear hb2; dsimp only) | ((with_reducible refine app_int rfl _ _ rfl T _ rfl rfl ?_ ?_); (focus simp); intro v5 w4 T; try simp only [Act.put, List.setIfInBounds_toArray, List.set_cons_succ, List.set_cons_zero]) | ((with_reducible refine app_bool rfl _ _ rfl T _ rfl rfl ?_ ?_); (focus simp); intro v6 w4 T; try simp only [Act.put, List.setIfInBounds_toArray, List.set_cons_succ, List.set_cons_zero]) | (go_at_call 48; refine (rlistP_c T rfl (by simp) (by simp)).mono ?_; rintro e w2 ⟨v, rfl, hown, hb2⟩; dsimp only))
  go_ret
  exact ⟨_, rfl, hown, hb2⟩
set_option maxRecDepth 8000 in
set_option maxHeartbeats 2000000 in
theorem rd_6 (S D N M A I J U F C Y : Int) (G X O L : Bool) (hR : rightB ⟨6, S, D, N, M, A, I, J, U, F, C, Y, G, X, O, L⟩ = true) (w : World) :
    Calls Tryz.prog 17 #[Ins.val ⟨6, S, D, N, M, A, I, J, U, F, C, Y, G, X, O, L⟩] w fun e w' => ∃ v, e = .returned v ∧ w'.ownsRow w.heap.size 3 1 v (listL (setAt [N] [spN (⟨6, S, D, N, M, A, I, J, U, F, C, Y, G, X, O, L⟩ : Ins)]) 32).length (listV (setAt [N] [spN (⟨6, S, D, N, M, A, I, J, U, F, C, Y, G, X, O, L⟩ : Ins)]) 32) ∧ Below w.heap.size w w' := by
  have T : Pair ⟨6, S, D, N, M, A, I, J, U, F, C, Y, G, X, O, L⟩ w [] [] (.slice none 0 0) (.slice none 0 0) (w.alloc (.cells (Ins.cells ⟨6, S, D, N, M, A, I, J, U, F, C, Y, G, X, O, L⟩) 23)) := ⟨one_start _ w, World.ownsRow_nil _ _ _ _, World.ownsRow_nil _ _ _ _⟩
  have en : hasB (shapeS 6) 110 = true := by decide +kernel
  have em : hasB (shapeS 6) 109 = false := by decide +kernel
  have ea : hasB (shapeS 6) 97 = false := by decide +kernel
  go_enter Tryz.func17, Tryz.ntmps17
  go_wp2_with (first | (refine wpList_load_if rfl 23 _ rfl w.heap.size rfl 23 _ (0, 0) _ T.one.box Tryz.underlying23 rfl (by kernel_rfl) ?_; simp only [Act.put, List.setIfInBounds_toArray, List.set_cons_succ, List.set_cons_zero]) | ((with_reducible refine wpList_load_cell rfl 3 _ rfl _ _ rfl _ (T.one.at _ _ rfl) (agg3 _) ?_); simp only [Act.put, List.setIfInBounds_toArray, List.set_cons_succ, List.set_cons_zero]) | (go_at_call 5; refine (rright_c (⟨6, S, D, N, M, A, I, J, U, F, C, Y, G, X, O, L⟩ : Ins) _).mono ?_; rw [hR]; rintro e w2 ⟨rfl, hb2⟩; replace T := T.grow hb2; clear hb2; dsimp only) | (go_at_call 46; refine (shape_c 6 _).mono ?_; rintro e w2 ⟨rfl, rfl⟩) | (go_at_call 47; refine (rhas_c (shapeS 6) _ (by decide) _).mono ?_; (first | rw [en] | rw [em] | rw [ea]); rintro e w2 ⟨rfl, rfl⟩) | (go_at_call 31; refine (rspN_c (⟨6, S, D, N, M, A, I, J, U, F, C, Y, G, X, O, L⟩ : Ins) _).mono ?_; rintro e w2 ⟨rfl, hb2⟩; replace T := T.grow hb2; clear hb2; dsimp only) | ((with_reducible refine app_int rfl _ _ rfl T _ rfl rfl ?_ ?_); (focus simp); intro v5 w4 T; try simp only [Act.put, List.setIfInBounds_toArray, List.set_cons_succ, List.set_cons_zero]) | ((with_reducible refine app_bool rfl _ _ rfl T _ rfl rfl ?_ ?_); (focus simp); intro v6 w4 T; try simp only [Act.put, List.setIfInBounds_toArray, List.set_cons_succ, List.set_cons_zero]) | (go_at_call 48; refine (rlistP_c T rfl (by simp) (by simp)).mono ?_; rintro e w2 ⟨v, rfl, hown, hb2⟩; dsimp only))
  go_ret
  exact ⟨_, rfl, hown, hb2⟩
set_option maxRecDepth 8000 in
set_option maxHeartbeats 2000000 in
theorem rd_9 (S D N M A I J U F C Y : Int) (G X O L : Bool) (hR : rightB ⟨9, S, D, N, M, A, I, J, U, F, C, Y, G, X, O, L⟩ = true) (w : World) :
    Calls Tryz.prog 17 #[Ins.val ⟨9, S, D, N, M, A, I, J, U, F, C, Y, G, X, O, L⟩] w fun e w' => ∃ v, e = .returned v ∧ w'.ownsRow w.heap.size 3 1 v (listL (setAt [N, M] [spN (⟨9, S, D, N, M, A, I, J, U, F, C, Y, G, X, O, L⟩ : Ins), false]) 32).length (listV (setAt [N, M] [spN (⟨9, S, D, N, M, A, I, J, U, F, C, Y, G, X, O, L⟩ : Ins), false]) 32) ∧ Below w.heap.size w w' := by
  have T : Pair ⟨9, S, D, N, M, A, I, J, U, F, C, Y, G, X, O, L⟩ w [] [] (.slice none 0 0) (.slice none 0 0) (w.alloc (.cells (Ins.cells ⟨9, S, D, N, M, A, I, J, U, F, C, Y, G, X, O, L⟩) 23)) := ⟨one_start _ w, World.ownsRow_nil _ _ _ _, World.ownsRow_nil _ _ _ _⟩
  have en : hasB (shapeS 9) 110 = true := by decide +kernel
  have em : hasB (shapeS 9) 109 = true := by decide +kernel
  have ea : hasB (shapeS 9) 97 = false := by decide +kernel
  go_enter Tryz.func17, Tryz.ntmps17
  go_wp2_with (first | (refine wpList_load_if rfl 23 _ rfl w.heap.size rfl 23 _ (0, 0) _ T.one.box Tryz.underlying23 rfl (by kernel_rfl) ?_; simp only [Act.put, List.setIfInBounds_toArray, List.set_cons_succ, List.set_cons_zero]) | ((with_reducible refine wpList_load_cell rfl 3 _ rfl _ _ rfl _ (T.one.at _ _ rfl) (agg3 _) ?_); simp only [Act.put, List.setIfInBounds_toArray, List.set_cons_succ, List.set_cons_zero]) | (go_at_call 5; refine (rright_c (⟨9, S, D, N, M, A, I, J, U, F, C, Y, G, X, O, L⟩ : Ins) _).mono ?_; rw [hR]; rintro e w2 ⟨rfl, hb2⟩; replace T := T.grow hb2; clear hb2; dsimp only) | (go_at_call 46; refine (shape_c 9 _).mono ?_; rintro e w2 ⟨rfl, rfl⟩) | (go_at_call 47; refine (rhas_c (shapeS 9) _ (by decide) _).mono ?_; (first | rw [en] | rw [em] | rw [ea]); rintro e w2 ⟨rfl, rfl⟩) | (go_at_call 31; refine (rspN_c (⟨9, S, D, N, M, A, I, J, U, F, C, Y, G, X, O, L⟩ : Ins) _).mono ?_; rintro e w2 ⟨rfl, hb2⟩; replace T := T.grow hb2; clear hb2; dsimp only) | ((with_reducible refine app_int rfl _ _ rfl T _ rfl rfl ?_ ?_); (focus simp); intro v5 w4 T; try simp only [Act.put, List.setIfInBounds_toArray, List.set_cons_succ, List.set_cons_zero]) | ((with_reducible refine app_bool rfl _ _ rfl T _ rfl rfl ?_ ?_); (focus simp); intro v6 w4 T; try simp only [Act.put, List.setIfInBounds_toArray, List.set_cons_succ, List.set_cons_zero]) | (go_at_call 48; refine (rlistP_c T rfl (by simp) (by simp)).mono ?_; rintro e w2 ⟨v, rfl, hown, hb2⟩; dsimp only))
  go_ret
  exact ⟨_, rfl, hown, hb2⟩
set_option maxRecDepth 8000 in
set_option maxHeartbeats 2000000 in
theorem rd_12 (S D N M A I J U F C Y : Int) (G X O L : Bool) (hR : rightB ⟨12, S, D, N, M, A, I, J, U, F, C, Y, G, X, O, L⟩ = true) (w : World) :
    Calls Tryz.prog 17 #[Ins.val ⟨12, S, D, N, M, A, I, J, U, F, C, Y, G, X, O, L⟩] w fun e w' => ∃ v, e = .returned v ∧ w'.ownsRow w.heap.size 3 1 v (listL (setAt [] []) 32).length (listV (setAt [] []) 32) ∧ Below w.heap.size w w' := by
  have T : Pair ⟨12, S, D, N, M, A, I, J, U, F, C, Y, G, X, O, L⟩ w [] [] (.slice none 0 0) (.slice none 0 0) (w.alloc (.cells (Ins.cells ⟨12, S, D, N, M, A, I, J, U, F, C, Y, G, X, O, L⟩) 23)) := ⟨one_start _ w, World.ownsRow_nil _ _ _ _, World.ownsRow_nil _ _ _ _⟩
  have en : hasB (shapeS 12) 110 = false := by decide +kernel
  have em : hasB (shapeS 12) 109 = false := by decide +kernel
  have ea : hasB (shapeS 12) 97 = false := by decide +kernel
  go_enter Tryz.func17, Tryz.ntmps17
  go_wp2_with (first | (refine wpList_load_if rfl 23 _ rfl w.heap.size rfl 23 _ (0, 0) _ T.one.box Tryz.underlying23 rfl (by kernel_rfl) ?_; simp only [Act.put, List.setIfInBounds_toArray, List.set_cons_succ, List.set_cons_zero]) | ((with_reducible refine wpList_load_cell rfl 3 _ rfl _ _ rfl _ (T.one.at _ _ rfl) (agg3 _) ?_); simp only [Act.put, List.setIfInBounds_toArray, List.set_cons_succ, List.set_cons_zero]) | (go_at_call 5; refine (rright_c (⟨12, S, D, N, M, A, I, J, U, F, C, Y, G, X, O, L⟩ : Ins) _).mono ?_; rw [hR]; rintro e w2 ⟨rfl, hb2⟩; replace T := T.grow hb2; clear hb2; dsimp only) | (go_at_call 46; refine (shape_c 12 _).mono ?_; rintro e w2 ⟨rfl, rfl⟩) | (go_at_call 47; refine (rhas_c (shapeS 12) _ (by decide) _).mono ?_; (first | rw [en] | rw [em] | rw [ea]); rintro e w2 ⟨rfl, rfl⟩) | (go_at_call 31; refine (rspN_c (⟨12, S, D, N, M, A, I, J, U, F, C, Y, G, X, O, L⟩ : Ins) _).mono ?_; rintro e w2 ⟨rfl, hb2⟩; replace T := T.grow hb2; clear hb2; dsimp only) | ((with_reducible refine app_int rfl _ _ rfl T _ rfl rfl ?_ ?_); (focus simp); intro v5 w4 T; try simp only [Act.put, List.setIfInBounds_toArray, List.set_cons_succ, List.set_cons_zero]) | ((with_reducible refine app_bool rfl _ _ rfl T _ rfl rfl ?_ ?_); (focus simp); intro v6 w4 T; try simp only [Act.put, List.setIfInBounds_toArray, List.set_cons_succ, List.set_cons_zero]) | (go_at_call 48; refine (rlist_nil _).mono ?_; rintro e w2 ⟨rfl, rfl⟩))
  go_ret
  refine ⟨_, rfl, ?_, T.one.below⟩
  rw [set_none1]
  exact World.ownsRow_nil _ _ _ _
set_option maxRecDepth 8000 in
set_option maxHeartbeats 2000000 in
theorem rd_15 (S D N M A I J U F C Y : Int) (G X O L : Bool) (hR : rightB ⟨15, S, D, N, M, A, I, J, U, F, C, Y, G, X, O, L⟩ = true) (w : World) :
    Calls Tryz.prog 17 #[Ins.val ⟨15, S, D, N, M, A, I, J, U, F, C, Y, G, X, O, L⟩] w fun e w' => ∃ v, e = .returned v ∧ w'.ownsRow w.heap.size 3 1 v (listL (setAt [D] [false]) 32).length (listV (setAt [D] [false]) 32) ∧ Below w.heap.size w w' := by
  have T : Pair ⟨15, S, D, N, M, A, I, J, U, F, C, Y, G, X, O, L⟩ w [] [] (.slice none 0 0) (.slice none 0 0) (w.alloc (.cells (Ins.cells ⟨15, S, D, N, M, A, I, J, U, F, C, Y, G, X, O, L⟩) 23)) := ⟨one_start _ w, World.ownsRow_nil _ _ _ _, World.ownsRow_nil _ _ _ _⟩
  have en : hasB (shapeS 15) 110 = false := by decide +kernel
  have em : hasB (shapeS 15) 109 = false := by decide +kernel
  have ea : hasB (shapeS 15) 97 = false := by decide +kernel
  go_enter Tryz.func17, Tryz.ntmps17
  go_wp2_with (first | (refine wpList_load_if rfl 23 _ rfl w.heap.size rfl 23 _ (0, 0) _ T.one.box Tryz.underlying23 rfl (by kernel_rfl) ?_; simp only [Act.put, List.setIfInBounds_toArray, List.set_cons_succ, List.set_cons_zero]) | ((with_reducible refine wpList_load_cell rfl 3 _ rfl _ _ rfl _ (T.one.at _ _ rfl) (agg3 _) ?_); simp only [Act.put, List.setIfInBounds_toArray, List.set_cons_succ, List.set_cons_zero]) | (go_at_call 5; refine (rright_c (⟨15, S, D, N, M, A, I, J, U, F, C, Y, G, X, O, L⟩ : Ins) _).mono ?_; rw [hR]; rintro e w2 ⟨rfl, hb2⟩; replace T := T.grow hb2; clear hb2; dsimp only) | (go_at_call 46; refine (shape_c 15 _).mono ?_; rintro e w2 ⟨rfl, rfl⟩) | (go_at_call 47; refine (rhas_c (shapeS 15) _ (by decide) _).mono ?_; (first | rw [en] | rw [em] | rw [ea]); rintro e w2 ⟨rfl, rfl⟩) | (go_at_call 31; refine (rspN_c (⟨15, S, D, N, M, A, I, J, U, F, C, Y, G, X, O, L⟩ : Ins) _).mono ?_; rintro e w2 ⟨rfl, hb2⟩; replace T := T.grow hb2; clear hb2; dsimp only) | ((with_reducible refine app_int rfl _ _ rfl T _ rfl rfl ?_ ?_); (focus simp); intro v5 w4 T; try simp only [Act.put, List.setIfInBounds_toArray, List.set_cons_succ, List.set_cons_zero]) | ((with_reducible refine app_bool rfl _ _ rfl T _ rfl rfl ?_ ?_); (focus simp); intro v6 w4 T; try simp only [Act.put, List.setIfInBounds_toArray, List.set_cons_succ, List.set_cons_zero]) | (go_at_call 48; refine (rlistP_c T rfl (by simp) (by simp)).mono ?_; rintro e w2 ⟨v, rfl, hown, hb2⟩; dsimp only))
  go_ret
  exact ⟨_, rfl, hown, hb2⟩
set_option maxRecDepth 8000 in
set_option maxHeartbeats 2000000 in
theorem rd_18 (S D N M A I J U F C Y : Int) (G X O L : Bool) (hR : rightB ⟨18, S, D, N, M, A, I, J, U, F, C, Y, G, X, O, L⟩ = true) (w : World) :
    Calls Tryz.prog 17 #[Ins.val ⟨18, S, D, N, M, A, I, J, U, F, C, Y, G, X, O, L⟩] w fun e w' => ∃ v, e = .returned v ∧ w'.ownsRow w.heap.size 3 1 v (listL (setAt [N, D] [spN (⟨18, S, D, N, M, A, I, J, U, F, C, Y, G, X, O, L⟩ : Ins), false]) 32).length (listV (setAt [N, D] [spN (⟨18, S, D, N, M, A, I, J, U, F, C, Y, G, X, O, L⟩ : Ins), false]) 32) ∧ Below w.heap.size w w' := by
  have T : Pair ⟨18, S, D, N, M, A, I, J, U, F, C, Y, G, X, O, L⟩ w [] [] (.slice none 0 0) (.slice none 0 0) (w.alloc (.cells (Ins.cells ⟨18, S, D, N, M, A, I, J, U, F, C, Y, G, X, O, L⟩) 23)) := ⟨one_start _ w, World.ownsRow_nil _ _ _ _, World.ownsRow_nil _ _ _ _⟩
  have en : hasB (shapeS 18) 110 = true := by decide +kernel
  have em : hasB (shapeS 18) 109 = false := by decide +kernel
  have ea : hasB (shapeS 18) 97 = false := by decide +kernel
  go_enter Tryz.func17, Tryz.ntmps17
  go_wp2_with (first | (refine wpList_load_if rfl 23 _ rfl w.heap.size rfl 23 _ (0, 0) _ T.one.box Tryz.underlying23 rfl (by kernel_rfl) ?_; simp only [Act.put, List.setIfInBounds_toArray, List.set_cons_succ, List.set_cons_zero]) | ((with_reducible refine wpList_load_cell rfl 3 _ rfl _ _ rfl _ (T.one.at _ _ rfl) (agg3 _) ?_); simp only [Act.put, List.setIfInBounds_toArray, List.set_cons_succ, List.set_cons_zero]) | (go_at_call 5; refine (rright_c (⟨18, S, D, N, M, A, I, J, U, F, C, Y, G, X, O, L⟩ : Ins) _).mono ?_; rw [hR]; rintro e w2 ⟨rfl, hb2⟩; replace T := T.grow hb2; clear hb2; dsimp only) | (go_at_call 46; refine (shape_c 18 _).mono ?_; rintro e w2 ⟨rfl, rfl⟩) | (go_at_call 47; refine (rhas_c (shapeS 18) _ (by decide) _).mono ?_; (first | rw [en] | rw [em] | rw [ea]); rintro e w2 ⟨rfl, rfl⟩) | (go_at_call 31; refine (rspN_c (⟨18, S, D, N, M, A, I, J, U, F, C, Y, G, X, O, L⟩ : Ins) _).mono ?_; rintro e w2 ⟨rfl, hb2⟩; replace T := T.grow hb2; clear hb2; dsimp only) | ((with_reducible refine app_int rfl _ _ rfl T _ rfl rfl ?_ ?_); (focus simp); intro v5 w4 T; try simp only [Act.put, List.setIfInBounds_toArray, List.set_cons_succ, List.set_cons_zero]) | ((with_reducible refine app_bool rfl _ _ rfl T _ rfl rfl ?_ ?_); (focus simp); intro v6 w4 T; try simp only [Act.put, List.setIfInBounds_toArray, List.set_cons_succ, List.set_cons_zero]) | (go_at_call 48; refine (rlistP_c T rfl (by simp) (by simp)).mono ?_; rintro e w2 ⟨v, rfl, hown, hb2⟩; dsimp only))
  go_ret
  exact ⟨_, rfl, hown, hb2⟩
set_option maxRecDepth 8000 in
set_option maxHeartbeats 2000000 in
theorem rd_21 (S D N M A I J U F C Y : Int) (G X O L : Bool) (hR : rightB ⟨21, S, D, N, M, A, I, J, U, F, C, Y, G, X, O, L⟩ = true) (w : World) :
    Calls Tryz.prog 17 #[Ins.val ⟨21, S, D, N, M, A, I, J, U, F, C, Y, G, X, O, L⟩] w fun e w' => ∃ v, e = .returned v ∧ w'.ownsRow w.heap.size 3 1 v (listL (setAt [N] [spN (⟨21, S, D, N, M, A, I, J, U, F, C, Y, G, X, O, L⟩ : Ins)]) 32).length (listV (setAt [N] [spN (⟨21, S, D, N, M, A, I, J, U, F, C, Y, G, X, O, L⟩ : Ins)]) 32) ∧ Below w.heap.size w w' := by
  have T : Pair ⟨21, S, D, N, M, A, I, J, U, F, C, Y, G, X, O, L⟩ w [] [] (.slice none 0 0) (.slice none 0 0) (w.alloc (.cells (Ins.cells ⟨21, S, D, N, M, A, I, J, U, F, C, Y, G, X, O, L⟩) 23)) := ⟨one_start _ w, World.ownsRow_nil _ _ _ _, World.ownsRow_nil _ _ _ _⟩
  have en : hasB (shapeS 21) 110 = true := by decide +kernel
  have em : hasB (shapeS 21) 109 = false := by decide +kernel
  have ea : hasB (shapeS 21) 97 = false := by decide +kernel
  go_enter Tryz.func17, Tryz.ntmps17
  go_wp2_with (first | (refine wpList_load_if rfl 23 _ rfl w.heap.size rfl 23 _ (0, 0) _ T.one.box Tryz.underlying23 rfl (by kernel_rfl) ?_; simp only [Act.put, List.setIfInBounds_toArray, List.set_cons_succ, List.set_cons_zero]) | ((with_reducible refine wpList_load_cell rfl 3 _ rfl _ _ rfl _ (T.one.at _ _ rfl) (agg3 _) ?_); simp only [Act.put, List.setIfInBounds_toArray, List.set_cons_succ, List.set_cons_zero]) | (go_at_call 5; refine (rright_c (⟨21, S, D, N, M, A, I, J, U, F, C, Y, G, X, O, L⟩ : Ins) _).mono ?_; rw [hR]; rintro e w2 ⟨rfl, hb2⟩; replace T := T.grow hb2; clear hb2; dsimp only) | (go_at_call 46; refine (shape_c 21 _).mono ?_; rintro e w2 ⟨rfl, rfl⟩) | (go_at_call 47; refine (rhas_c (shapeS 21) _ (by decide) _).mono ?_; (first | rw [en] | rw [em] | rw [ea]); rintro e w2 ⟨rfl, rfl⟩) | (go_at_call 31; refine (rspN_c (⟨21, S, D, N, M, A, I, J, U, F, C, Y, G, X, O, L⟩ : Ins) _).mono ?_; rintro e w2 ⟨rfl, hb2⟩; replace T := T.grow hb2; clear hb2; dsimp only) | ((with_reducible refine app_int rfl _ _ rfl T _ rfl rfl ?_ ?_); (focus simp); intro v5 w4 T; try simp only [Act.put, List.setIfInBounds_toArray, List.set_cons_succ, List.set_cons_zero]) | ((with_reducible refine app_bool rfl _ _ rfl T _ rfl rfl ?_ ?_); (focus simp); intro v6 w4 T; try simp only [Act.put, List.setIfInBounds_toArray, List.set_cons_succ, List.set_cons_zero]) | (go_at_call 48; refine (rlistP_c T rfl (by simp) (by simp)).mono ?_; rintro e w2 ⟨v, rfl, hown, hb2⟩; dsimp only))
  go_ret
  exact ⟨_, rfl, hown, hb2⟩
set_option maxRecDepth 8000 in
set_option maxHeartbeats 2000000 in
theorem rd_24 (S D N M A I J U F C Y : Int) (G X O L : Bool) (hR : rightB ⟨24, S, D, N, M, A, I, J, U, F, C, Y, G, X, O, L⟩ = true) (w : World) :
    Calls Tryz.prog 17 #[Ins.val ⟨24, S, D, N, M, A, I, J, U, F, C, Y, G, X, O, L⟩] w fun e w' => ∃ v, e = .returned v ∧ w'.ownsRow w.heap.size 3 1 v (listL (setAt [N, D] [spN (⟨24, S, D, N, M, A, I, J, U, F, C, Y, G, X, O, L⟩ : Ins), false]) 32).length (listV (setAt [N, D] [spN (⟨24, S, D, N, M, A, I, J, U, F, C, Y, G, X, O, L⟩ : Ins), false]) 32) ∧ Below w.heap.size w w' := by
  have T : Pair ⟨24, S, D, N, M, A, I, J, U, F, C, Y, G, X, O, L⟩ w [] [] (.slice none 0 0) (.slice none 0 0) (w.alloc (.cells (Ins.cells ⟨24, S, D, N, M, A, I, J, U, F, C, Y, G, X, O, L⟩) 23)) := ⟨one_start _ w, World.ownsRow_nil _ _ _ _, World.ownsRow_nil _ _ _ _⟩
  have en : hasB (shapeS 24) 110 = true := by decide +kernel
  have em : hasB (shapeS 24) 109 = true := by decide +kernel
  have ea : hasB (shapeS 24) 97 = false := by decide +kernel
  go_enter Tryz.func17, Tryz.ntmps17
  go_wp2_with (first | (refine wpList_load_if rfl 23 _ rfl w.heap.size rfl 23 _ (0, 0) _ T.one.box Tryz.underlying23 rfl (by kernel_rfl) ?_; simp only [Act.put, List.setIfInBounds_toArray, List.set_cons_succ, List.set_cons_zero]) | ((with_reducible refine wpList_load_cell rfl 3 _ rfl _ _ rfl _ (T.one.at _ _ rfl) (agg3 _) ?_); simp only [Act.put, List.setIfInBounds_toArray, List.set_cons_succ, List.set_cons_zero]) | (go_at_call 5; refine (rright_c (⟨24, S, D, N, M, A, I, J, U, F, C, Y, G, X, O, L⟩ : Ins) _).mono ?_; rw [hR]; rintro e w2 ⟨rfl, hb2⟩; replace T := T.grow hb2; clear hb2; dsimp only) | (go_at_call 46; refine (shape_c 24 _).mono ?_; rintro e w2 ⟨rfl, rfl⟩) | (go_at_call 47; refine (rhas_c (shapeS 24) _ (by decide) _).mono ?_; (first | rw [en] | rw [em] | rw [ea]); rintro e w2 ⟨rfl, rfl⟩) | (go_at_call 31; refine (rspN_c (⟨24, S, D, N, M, A, I, J, U, F, C, Y, G, X, O, L⟩ : Ins) _).mono ?_; rintro e w2 ⟨rfl, hb2⟩; replace T := T.grow hb2; clear hb2; dsimp only) | ((with_reducible refine app_int rfl _ _ rfl T _ rfl rfl ?_ ?_); (focus simp); intro v5 w4 T; try simp only [Act.put, List.setIfInBounds_toArray, List.set_cons_succ, List.set_cons_zero]) | ((with_reducible refine app_bool rfl _ _ rfl T _ rfl rfl ?_ ?_); (focus simp); intro v6 w4 T; try simp only [Act.put, List.setIfInBounds_toArray, List.set_cons_succ, List.set_cons_zero]) | (go_at_call 48; refine (rlistP_c T rfl (by simp) (by simp)).mono ?_; rintro e w2 ⟨v, rfl, hown, hb2⟩; dsimp only))
  go_ret
  exact ⟨_, rfl, hown, hb2⟩
set_option maxRecDepth 8000 in
set_option maxHeartbeats 2000000 in
theorem rd_27 (S D N M A I J U F C Y : Int) (G X O L : Bool) (hR : rightB ⟨27, S, D, N, M, A, I, J, U, F, C, Y, G, X, O, L⟩ = true) (w : World) :
    Calls Tryz.prog 17 #[Ins.val ⟨27, S, D, N, M, A, I, J, U, F, C, Y, G, X, O, L⟩] w fun e w' => ∃ v, e = .returned v ∧ w'.ownsRow w.heap.size 3 1 v (listL (setAt [] []) 32).length (listV (setAt [] []) 32) ∧ Below w.heap.size w w' := by
  have T : Pair ⟨27, S, D, N, M, A, I, J, U, F, C, Y, G, X, O, L⟩ w [] [] (.slice none 0 0) (.slice none 0 0) (w.alloc (.cells (Ins.cells ⟨27, S, D, N, M, A, I, J, U, F, C, Y, G, X, O, L⟩) 23)) := ⟨one_start _ w, World.ownsRow_nil _ _ _ _, World.ownsRow_nil _ _ _ _⟩
  have en : hasB (shapeS 27) 110 = false := by decide +kernel
  have em : hasB (shapeS 27) 109 = false := by decide +kernel
  have ea : hasB (shapeS 27) 97 = false := by decide +kernel
  go_enter Tryz.func17, Tryz.ntmps17
  go_wp2_with (first | (refine wpList_load_if rfl 23 _ rfl w.heap.size rfl 23 _ (0, 0) _ T.one.box Tryz.underlying23 rfl (by kernel_rfl) ?_; simp only [Act.put, List.setIfInBounds_toArray, List.set_cons_succ, List.set_cons_zero]) | ((with_reducible refine wpList_load_cell rfl 3 _ rfl _ _ rfl _ (T.one.at _ _ rfl) (agg3 _) ?_); simp only [Act.put, List.setIfInBounds_toArray, List.set_cons_succ, List.set_cons_zero]) | (go_at_call 5; refine (rright_c (⟨27, S, D, N, M, A, I, J, U, F, C, Y, G, X, O, L⟩ : Ins) _).mono ?_; rw [hR]; rintro e w2 ⟨rfl, hb2⟩; replace T := T.grow hb2; clear hb2; dsimp only) | (go_at_call 46; refine (shape_c 27 _).mono ?_; rintro e w2 ⟨rfl, rfl⟩) | (go_at_call 47; refine (rhas_c (shapeS 27) _ (by decide) _).mono ?_; (first | rw [en] | rw [em] | rw [ea]); rintro e w2 ⟨rfl, rfl⟩) | (go_at_call 31; refine (rspN_c (⟨27, S, D, N, M, A, I, J, U, F, C, Y, G, X, O, L⟩ : Ins) _).mono ?_; rintro e w2 ⟨rfl, hb2⟩; replace T := T.grow hb2; clear hb2; dsimp only) | ((with_reducible refine app_int rfl _ _ rfl T _ rfl rfl ?_ ?_); (focus simp); intro v5 w4 T; try simp only [Act.put, List.setIfInBounds_toArray, List.set_cons_succ, List.set_cons_zero]) | ((with_reducible refine app_bool rfl _ _ rfl T _ rfl rfl ?_ ?_); (focus simp); intro v6 w4 T; try simp only [Act.put, List.setIfInBounds_toArray, List.set_cons_succ, List.set_cons_zero]) | (go_at_call 48; refine (rlist_nil _).mono ?_; rintro e w2 ⟨rfl, rfl⟩))
  go_ret
  refine ⟨_, rfl, ?_, T.one.below⟩
  rw [set_none1]
  exact World.ownsRow_nil _ _ _ _
set_option maxRecDepth 8000 in
set_option maxHeartbeats 2000000 in
theorem rd_30 (S D N M A I J U F C Y : Int) (G X O L : Bool) (hR : rightB ⟨30, S, D, N, M, A, I, J, U, F, C, Y, G, X, O, L⟩ = true) (w : World) :
    Calls Tryz.prog 17 #[Ins.val ⟨30, S, D, N, M, A, I, J, U, F, C, Y, G, X, O, L⟩] w fun e w' => ∃ v, e = .returned v ∧ w'.ownsRow w.heap.size 3 1 v (listL (setAt [D] [false]) 32).length (listV (setAt [D] [false]) 32) ∧ Below w.heap.size w w' := by
  have T : Pair ⟨30, S, D, N, M, A, I, J, U, F, C, Y, G, X, O, L⟩ w [] [] (.slice none 0 0) (.slice none 0 0) (w.alloc (.cells (Ins.cells ⟨30, S, D, N, M, A, I, J, U, F, C, Y, G, X, O, L⟩) 23)) := ⟨one_start _ w, World.ownsRow_nil _ _ _ _, World.ownsRow_nil _ _ _ _⟩
  have en : hasB (shapeS 30) 110 = false := by decide +kernel
  have em : hasB (shapeS 30) 109 = false := by decide +kernel
  have ea : hasB (shapeS 30) 97 = false := by decide +kernel
  go_enter Tryz.func17, Tryz.ntmps17
  go_wp2_with (first | (refine wpList_load_if rfl 23 _ rfl w.heap.size rfl 23 _ (0, 0) _ T.one.box Tryz.underlying23 rfl (by kernel_rfl) ?_; simp only [Act.put, List.setIfInBounds_toArray, List.set_cons_succ, List.set_cons_zero]) | ((with_reducible refine wpList_load_cell rfl 3 _ rfl _ _ rfl _ (T.one.at _ _ rfl) (agg3 _) ?_); simp only [Act.put, List.setIfInBounds_toArray, List.set_cons_succ, List.set_cons_zero]) | (go_at_call 5; refine (rright_c (⟨30, S, D, N, M, A, I, J, U, F, C, Y, G, X, O, L⟩ : Ins) _).mono ?_; rw [hR]; rintro e w2 ⟨rfl, hb2⟩; replace T := T.grow hb2; clear hb2; dsimp only) | (go_at_call 46; refine (shape_c 30 _).mono ?_; rintro e w2 ⟨rfl, rfl⟩) | (go_at_call 47; refine (rhas_c (shapeS 30) _ (by decide) _).mono ?_; (first | rw [en] | rw [em] | rw [ea]); rintro e w2 ⟨rfl, rfl⟩) | (go_at_call 31; refine (rspN_c (⟨30, S, D, N, M, A, I, J, U, F, C, Y, G, X, O, L⟩ : Ins) _).mono ?_; rintro e w2 ⟨rfl, hb2⟩; replace T := T.grow hb2; clear hb2; dsimp only) | ((with_reducible refine app_int rfl _ _ rfl T _ rfl rfl ?_ ?_); (focus simp); intro v5 w4 T; try simp only [Act.put, List.setIfInBounds_toArray, List.set_cons_succ, List.set_cons_zero]) | ((with_reducible refine app_bool rfl _ _ rfl T _ rfl rfl ?_ ?_); (focus simp); intro v6 w4 T; try simp only [Act.put, List.setIfInBounds_toArray, List.set_cons_succ, List.set_cons_zero]) | (go_at_call 48; refine (rlistP_c T rfl (by simp) (by simp)).mono ?_; rintro e w2 ⟨v, rfl, hown, hb2⟩; dsimp only))
  go_ret
  exact ⟨_, rfl, hown, hb2⟩
set_option maxRecDepth 8000 in
set_option maxHeartbeats 2000000 in
theorem rd_33 (S D N M A I J U F C Y : Int) (G X O L : Bool) (hR : rightB ⟨33, S, D, N, M, A, I, J, U, F, C, Y, G, X, O, L⟩ = true) (w : World) :
    Calls Tryz.prog 17 #[Ins.val ⟨33, S, D, N, M, A, I, J, U, F, C, Y, G, X, O, L⟩] w fun e w' => ∃ v, e = .returned v ∧ w'.ownsRow w.heap.size 3 1 v (listL (setAt [] []) 32).length (listV (setAt [] []) 32) ∧ Below w.heap.size w w' := by
  have T : Pair ⟨33, S, D, N, M, A, I, J, U, F, C, Y, G, X, O, L⟩ w [] [] (.slice none 0 0) (.slice none 0 0) (w.alloc (.cells (Ins.cells ⟨33, S, D, N, M, A, I, J, U, F, C, Y, G, X, O, L⟩) 23)) := ⟨one_start _ w, World.ownsRow_nil _ _ _ _, World.ownsRow_nil _ _ _ _⟩
  have en : hasB (shapeS 33) 110 = false := by decide +kernel
  have em : hasB (shapeS 33) 109 = false := by decide +kernel
  have ea : hasB (shapeS 33) 97 = false := by decide +kernel
  go_enter Tryz.func17, Tryz.ntmps17
  go_wp2_with (first | (refine wpList_load_if rfl 23 _ rfl w.heap.size rfl 23 _ (0, 0) _ T.one.box Tryz.underlying23 rfl (by kernel_rfl) ?_; simp only [Act.put, List.setIfInBounds_toArray, List.set_cons_succ, List.set_cons_zero]) | ((with_reducible refine wpList_load_cell rfl 3 _ rfl _ _ rfl _ (T.one.at _ _ rfl) (agg3 _) ?_); simp only [Act.put, List.setIfInBounds_toArray, List.set_cons_succ, List.set_cons_zero]) | (go_at_call 5; refine (rright_c (⟨33, S, D, N, M, A, I, J, U, F, C, Y, G, X, O, L⟩ : Ins) _).mono ?_; rw [hR]; rintro e w2 ⟨rfl, hb2⟩; replace T := T.grow hb2; clear hb2; dsimp only) | (go_at_call 46; refine (shape_c 33 _).mono ?_; rintro e w2 ⟨rfl, rfl⟩) | (go_at_call 47; refine (rhas_c (shapeS 33) _ (by decide) _).mono ?_; (first | rw [en] | rw [em] | rw [ea]); rintro e w2 ⟨rfl, rfl⟩) | (go_at_call 31; refine (rspN_c (⟨33, S, D, N, M, A, I, J, U, F, C, Y, G, X, O, L⟩ : Ins) _).mono ?_; rintro e w2 ⟨rfl, hb2⟩; replace T := T.grow hb2; clear hb2; dsimp only) | ((with_reducible refine app_int rfl _ _ rfl T _ rfl rfl ?_ ?_); (focus simp); intro v5 w4 T; try simp only [Act.put, List.setIfInBounds_toArray, List.set_cons_succ, List.set_cons_zero]) | ((with_reducible refine app_bool rfl _ _ rfl T _ rfl rfl ?_ ?_); (focus simp); intro v6 w4 T; try simp only [Act.put, List.setIfInBounds_toArray, List.set_cons_succ, List.set_cons_zero]) | (go_at_call 48; refine (rlist_nil _).mono ?_; rintro e w2 ⟨rfl, rfl⟩))
  go_ret
  refine ⟨_, rfl, ?_, T.one.below⟩
  rw [set_none1]
  exact World.ownsRow_nil _ _ _ _
set_option maxRecDepth 8000 in
set_option maxHeartbeats 2000000 in
theorem rd_36 (S D N M A I J U F C Y : Int) (G X O L : Bool) (hR : rightB ⟨36, S, D, N, M, A, I, J, U, F, C, Y, G, X, O, L⟩ = true) (w : World) :
    Calls Tryz.prog 17 #[Ins.val ⟨36, S, D, N, M, A, I, J, U, F, C, Y, G, X, O, L⟩] w fun e w' => ∃ v, e = .returned v ∧ w'.ownsRow w.heap.size 3 1 v (listL (setAt [] []) 32).length (listV (setAt [] []) 32) ∧ Below w.heap.size w w' := by
  have T : Pair ⟨36, S, D, N, M, A, I, J, U, F, C, Y, G, X, O, L⟩ w [] [] (.slice none 0 0) (.slice none 0 0) (w.alloc (.cells (Ins.cells ⟨36, S, D, N, M, A, I, J, U, F, C, Y, G, X, O, L⟩) 23)) := ⟨one_start _ w, World.ownsRow_nil _ _ _ _, World.ownsRow_nil _ _ _ _⟩
  have en : hasB (shapeS 36) 110 = false := by decide +kernel
  have em : hasB (shapeS 36) 109 = false := by decide +kernel
  have ea : hasB (shapeS 36) 97 = false := by decide +kernel
  go_enter Tryz.func17, Tryz.ntmps17
  go_wp2_with (first | (refine wpList_load_if rfl 23 _ rfl w.heap.size rfl 23 _ (0, 0) _ T.one.box Tryz.underlying23 rfl (by kernel_rfl) ?_; simp only [Act.put, List.setIfInBounds_toArray, List.set_cons_succ, List.set_cons_zero]) | ((with_reducible refine wpList_load_cell rfl 3 _ rfl _ _ rfl _ (T.one.at _ _ rfl) (agg3 _) ?_); simp only [Act.put, List.setIfInBounds_toArray, List.set_cons_succ, List.set_cons_zero]) | (go_at_call 5; refine (rright_c (⟨36, S, D, N, M, A, I, J, U, F, C, Y, G, X, O, L⟩ : Ins) _).mono ?_; rw [hR]; rintro e w2 ⟨rfl, hb2⟩; replace T := T.grow hb2; clear hb2; dsimp only) | (go_at_call 46; refine (shape_c 36 _).mono ?_; rintro e w2 ⟨rfl, rfl⟩) | (go_at_call 47; refine (rhas_c (shapeS 36) _ (by decide) _).mono ?_; (first | rw [en] | rw [em] | rw [ea]); rintro e w2 ⟨rfl, rfl⟩) | (go_at_call 31; refine (rspN_c (⟨36, S, D, N, M, A, I, J, U, F, C, Y, G, X, O, L⟩ : Ins) _).mono ?_; rintro e w2 ⟨rfl, hb2⟩; replace T := T.grow hb2; clear hb2; dsimp only) | ((with_reducible refine app_int rfl _ _ rfl T _ rfl rfl ?_ ?_); (focus simp); intro v5 w4 T; try simp only [Act.put, List.setIfInBounds_toArray, List.set_cons_succ, List.set_cons_zero]) | ((with_reducible refine app_bool rfl _ _ rfl T _ rfl rfl ?_ ?_); (focus simp); intro v6 w4 T; try simp only [Act.put, List.setIfInBounds_toArray, List.set_cons_succ, List.set_cons_zero]) | (go_at_call 48; refine (rlist_nil _).mono ?_; rintro e w2 ⟨rfl, rfl⟩))
  go_ret
  refine ⟨_, rfl, ?_, T.one.below⟩
  rw [set_none1]
  exact World.ownsRow_nil _ _ _ _
set_option maxRecDepth 8000 in
set_option maxHeartbeats 2000000 in
theorem rd_5n (S D N M A I J U F C Y : Int) (G X O L : Bool) (hR : rightB ⟨5, S, D, N, M, A, I, J, U, F, C, Y, G, X, O, L⟩ = true) (hs : (S == 3) = false) (w : World) :
    Calls Tryz.prog 17 #[Ins.val ⟨5, S, D, N, M, A, I, J, U, F, C, Y, G, X, O, L⟩] w fun e w' => ∃ v, e = .returned v ∧ w'.ownsRow w.heap.size 3 1 v (listL (setAt [] []) 32).length (listV (setAt [] []) 32) ∧ Below w.heap.size w w' := by
  have T : Pair ⟨5, S, D, N, M, A, I, J, U, F, C, Y, G, X, O, L⟩ w [] [] (.slice none 0 0) (.slice none 0 0) (w.alloc (.cells (Ins.cells ⟨5, S, D, N, M, A, I, J, U, F, C, Y, G, X, O, L⟩) 23)) := ⟨one_start _ w, World.ownsRow_nil _ _ _ _, World.ownsRow_nil _ _ _ _⟩
  have en : hasB (shapeS 5) 110 = false := by decide +kernel
  have em : hasB (shapeS 5) 109 = false := by decide +kernel
  have ea : hasB (shapeS 5) 97 = false := by decide +kernel
  go_enter Tryz.func17, Tryz.ntmps17
  go_wp2_with (first | (refine wpList_load_if rfl 23 _ rfl w.heap.size rfl 23 _ (0, 0) _ T.one.box Tryz.underlying23 rfl (by kernel_rfl) ?_; simp only [Act.put, List.setIfInBounds_toArray, List.set_cons_succ, List.set_cons_zero]) | ((with_reducible refine wpList_load_cell rfl 3 _ rfl _ _ rfl _ (T.one.at _ _ rfl) (agg3 _) ?_); simp only [Act.put, List.setIfInBounds_toArray, List.set_cons_succ, List.set_cons_zero]) | (go_at_call 5; refine (rright_c (⟨5, S, D, N, M, A, I, J, U, F, C, Y, G, X, O, L⟩ : Ins) _).mono ?_; rw [hR]; rintro e w2 ⟨rfl, hb2⟩; replace T := T.grow hb2; clear hb2; dsimp only) | (go_at_call 46; refine (shape_c 5 _).mono ?_; rintro e w2 ⟨rfl, rfl⟩) | (go_at_call 47; refine (rhas_c (shapeS 5) _ (by decide) _).mono ?_; (first | rw [en] | rw [em] | rw [ea]); rintro e w2 ⟨rfl, rfl⟩) | (go_at_call 31; refine (rspN_c (⟨5, S, D, N, M, A, I, J, U, F, C, Y, G, X, O, L⟩ : Ins) _).mono ?_; rintro e w2 ⟨rfl, hb2⟩; replace T := T.grow hb2; clear hb2; dsimp only) | ((with_reducible refine app_int rfl _ _ rfl T _ rfl rfl ?_ ?_); (focus simp); intro v5 w4 T; try simp only [Act.put, List.setIfInBounds_toArray, List.set_cons_succ, List.set_cons_zero]) | ((with_reducible refine app_bool rfl _ _ rfl T _ rfl rfl ?_ ?_); (focus simp); intro v6 w4 T; try simp only [Act.put, List.setIfInBounds_toArray, List.set_cons_succ, List.set_cons_zero]) | (go_at_call 48; refine (rlist_nil _).mono ?_; rintro e w2 ⟨rfl, rfl⟩))
  go_ret
  refine ⟨_, rfl, ?_, T.one.below⟩
  rw [set_none1]
  exact World.ownsRow_nil _ _ _ _
end Go.Proofs.YtjmdgfimmjodjaaGreatDoor
