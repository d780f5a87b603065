/- What instructions read, Op by Op, as the document's own answer tells: contracts. -/
import Derived.Test.YtjmdgfimmjodjaaGreatDoorV21
namespace Go.Proofs.YtjmdgfimmjodjaaGreatDoor
open Go.RowKit Go.Rel
set_option linter.unusedVariables false
theorem set_none : setAt [] [] = 0 := by decide +kernel
set_option maxRecDepth 8000 in
set_option maxHeartbeats 2000000 in
theorem rd_1 (S D N M A I J U F C Y : Int) (G X O L : Bool) (hR : rightB ⟨1, S, D, N, M, A, I, J, U, F, C, Y, G, X, O, L⟩ = true) (w : World) :
    Calls Tryz.prog 17 #[Ins.val ⟨1, S, D, N, M, A, I, J, U, F, C, Y, G, X, O, L⟩] w fun e w' => ∃ v, e = .returned v ∧ w'.ownsRow w.heap.size 3 1 v (listL (setAt [N] [spN (⟨1, S, D, N, M, A, I, J, U, F, C, Y, G, X, O, L⟩ : Ins)]) 32).length (listV (setAt [N] [spN (⟨1, S, D, N, M, A, I, J, U, F, C, Y, G, X, O, L⟩ : Ins)]) 32) ∧ Below w.heap.size w w' := by
  have T : Pair ⟨1, S, D, N, M, A, I, J, U, F, C, Y, G, X, O, L⟩ w [] [] (.slice none 0 0) (.slice none 0 0) (w.alloc (.cells (Ins.cells ⟨1, S, D, N, M, A, I, J, U, F, C, Y, G, X, O, L⟩) 23)) := ⟨one_start _ w, World.ownsRow_nil _ _ _ _, World.ownsRow_nil _ _ _ _⟩
  have en : hasB (shapeS 1) 110 = true := by decide +kernel
  have em : hasB (shapeS 1) 109 = false := by decide +kernel
  have ea : hasB (shapeS 1) 97 = false := by decide +kernel
  go_enter Tryz.func17, Tryz.ntmps17
  go_wp2_with (first | (refine wpList_load_if rfl 23 _ rfl w.heap.size rfl 23 _ (0, 0) _ T.one.box Tryz.underlying23 rfl (by kernel_rfl) ?_; simp only [Act.put, List.setIfInBounds_toArray, List.set_cons_succ, List.set_cons_zero]) | ((with_reducible refine wpList_load_cell rfl 3 _ rfl _ _ rfl _ (T.one.at _ _ rfl) (agg3 _) ?_); simp only [Act.put, List.setIfInBounds_toArray, List.set_cons_succ, List.set_cons_zero]) | (go_at_call 5; refine (rright_c (⟨1, S, D, N, M, A, I, J, U, F, C, Y, G, X, O, L⟩ : Ins) _).mono ?_; rw [hR]; rintro e w2 ⟨rfl, hb2⟩; replace T := T.grow hb2; clear hb2; dsimp only) | (go_at_call 46; refine (shape_c 1 _).mono ?_; rintro e w2 ⟨rfl, rfl⟩) | (go_at_call 47; refine (rhas_c (shapeS 1) _ (by decide) _).mono ?_; (first | rw [en] | rw [em] | rw [ea]); rintro e w2 ⟨rfl, rfl⟩) | (go_at_call 31; refine (rspN_c (⟨1, S, D, N, M, A, I, J, U, F, C, Y, G, X, O, L⟩ : Ins) _).mono ?_; rintro e w2 ⟨rfl, hb2⟩; replace T := T.grow hb2; clear hb2; dsimp only) | ((with_reducible refine app_int rfl _ _ rfl T _ rfl rfl ?_ ?_); (focus simp); intro v5 w4 T; try simp only [Act.put, List.setIfInBounds_toArray, List.set_cons_succ, List.set_cons_zero]) | ((with_reducible refine app_bool rfl _ _ rfl T _ rfl rfl ?_ ?_); (focus simp); intro v6 w4 T; try simp only [Act.put, List.setIfInBounds_toArray, List.set_cons_succ, List.set_cons_zero]) | (go_at_call 48; refine (rlistP_c T rfl (by simp) (by simp)).mono ?_; rintro e w2 ⟨v, rfl, hown, hb2⟩; dsimp only))
  go_ret
  exact ⟨_, rfl, hown, hb2⟩
set_option maxRecDepth 8000 in
set_option maxHeartbeats 2000000 in
theorem rd_4 (S D N M A I J U F C Y : Int) (G X O L : Bool) (hR : rightB ⟨4, S, D, N, M, A, I, J, U, F, C, Y, G, X, O, L⟩ = true) (w : World) :
    Calls Tryz.prog 17 #[Ins.val ⟨4, S, D, N, M, A, I, J, U, F, C, Y, G, X, O, L⟩] w fun e w' => ∃ v, e = .returned v ∧ w'.ownsRow w.heap.size 3 1 v (listL (setAt [N] [spN (⟨4, S, D, N, M, A, I, J, U, F, C, Y, G, X, O, L⟩ : Ins)]) 32).length (listV (setAt [N] [spN (⟨4, S, D, N, M, A, I, J, U, F, C, Y, G, X, O, L⟩ : Ins)]) 32) ∧ Below w.heap.size w w' := by
  have T : Pair ⟨4, S, D, N, M, A, I, J, U, F, C, Y, G, X, O, L⟩ w [] [] (.slice none 0 0) (.slice none 0 0) (w.alloc (.cells (Ins.cells ⟨4, S, D, N, M, A, I, J, U, F, C, Y, G, X, O, L⟩) 23)) := ⟨one_start _ w, World.ownsRow_nil _ _ _ _, World.ownsRow_nil _ _ _ _⟩
  have en : hasB (shapeS 4) 110 = true := by decide +kernel
  have em : hasB (shapeS 4) 109 = false := by decide +kernel
  have ea : hasB (shapeS 4) 97 = false := by decide +kernel
  go_enter Tryz.func17, Tryz.ntmps17
  go_wp2_with (first | (refine wpList_load_if rfl 23 _ rfl w.heap.size rfl 23 _ (0, 0) _ T.one.box Tryz.underlying23 rfl (by kernel_rfl) ?_; simp only [Act.put, List.setIfInBounds_toArray, List.set_cons_succ, List.set_cons_zero]) | ((with_reducible refine wpList_load_cell rfl 3 _ rfl _ _ rfl _ (T.one.at _ _ rfl) (agg3 _) ?_); simp only [Act.put, List.setIfInBounds_toArray, List.set_cons_succ, List.set_cons_zero]) | (go_at_call 5; refine (rright_c (⟨4, S, D, N, M, A, I, J, U, F, C, Y, G, X, O, L⟩ : Ins) _).mono ?_; rw [hR]; rintro e w2 ⟨rfl, hb2⟩; replace T := T.grow hb2; clear hb2; dsimp only) | (go_at_call 46; refine (shape_c 4 _).mono ?_; rintro e w2 ⟨rfl, rfl⟩) | (go_at_call 47; refine (rhas_c (shapeS 4) _ (by decide) _).mono ?_; (first | rw [en] | rw [em] | rw [ea]); rintro e w2 ⟨rfl, rfl⟩) | (go_at_call 31; refine (rspN_c (⟨4, S, D, N, M, A, I, J, U, F, C, Y, G, X, O, L⟩ : Ins) _).mono ?_; rintro e w2 ⟨rfl, hb2⟩; replace T := T.grow hb2; clear hb2; dsimp only) | ((with_reducible refine app_int rfl _ _ rfl T _ rfl rfl ?_ ?_); (focus simp); intro v5 w4 T; try simp only [Act.put, List.setIfInBounds_toArray, List.set_cons_succ, List.set_cons_zero]) | ((with_reducible refine app_bool rfl _ _ rfl T _ rfl rfl ?_ ?_); (focus simp); intro v6 w4 T; try simp only [Act.put, List.setIfInBounds_toArray, List.set_cons_succ, List.set_cons_zero]) | (go_at_call 48; refine (rlistP_c T rfl (by simp) (by simp)).mono ?_; rintro e w2 ⟨v, rfl, hown, hb2⟩; dsimp only))
  go_ret
  exact ⟨_, rfl, hown, hb2⟩
set_option maxRecDepth 8000 in
set_option maxHeartbeats 2000000 in
theorem rd_8 (S D N M A I J U F C Y : Int) (G X O L : Bool) (hR : rightB ⟨8, S, D, N, M, A, I, J, U, F, C, Y, G, X, O, L⟩ = true) (w : World) :
    Calls Tryz.prog 17 #[Ins.val ⟨8, S, D, N, M, A, I, J, U, F, C, Y, G, X, O, L⟩] w fun e w' => ∃ v, e = .returned v ∧ w'.ownsRow w.heap.size 3 1 v (listL (setAt [N, M, A] [spN (⟨8, S, D, N, M, A, I, J, U, F, C, Y, G, X, O, L⟩ : Ins), false, false]) 32).length (listV (setAt [N, M, A] [spN (⟨8, S, D, N, M, A, I, J, U, F, C, Y, G, X, O, L⟩ : Ins), false, false]) 32) ∧ Below w.heap.size w w' := by
  have T : Pair ⟨8, S, D, N, M, A, I, J, U, F, C, Y, G, X, O, L⟩ w [] [] (.slice none 0 0) (.slice none 0 0) (w.alloc (.cells (Ins.cells ⟨8, S, D, N, M, A, I, J, U, F, C, Y, G, X, O, L⟩) 23)) := ⟨one_start _ w, World.ownsRow_nil _ _ _ _, World.ownsRow_nil _ _ _ _⟩
  have en : hasB (shapeS 8) 110 = true := by decide +kernel
  have em : hasB (shapeS 8) 109 = true := by decide +kernel
  have ea : hasB (shapeS 8) 97 = true := by decide +kernel
  go_enter Tryz.func17, Tryz.ntmps17
  go_wp2_with (first | (refine wpList_load_if rfl 23 _ rfl w.heap.size rfl 23 _ (0, 0) _ T.one.box Tryz.underlying23 rfl (by kernel_rfl) ?_; simp only [Act.put, List.setIfInBounds_toArray, List.set_cons_succ, List.set_cons_zero]) | ((with_reducible refine wpList_load_cell rfl 3 _ rfl _ _ rfl _ (T.one.at _ _ rfl) (agg3 _) ?_); simp only [Act.put, List.setIfInBounds_toArray, List.set_cons_succ, List.set_cons_zero]) | (go_at_call 5; refine (rright_c (⟨8, S, D, N, M, A, I, J, U, F, C, Y, G, X, O, L⟩ : Ins) _).mono ?_; rw [hR]; rintro e w2 ⟨rfl, hb2⟩; replace T := T.grow hb2; clear hb2; dsimp only) | (go_at_call 46; refine (shape_c 8 _).mono ?_; rintro e w2 ⟨rfl, rfl⟩) | (go_at_call 47; refine (rhas_c (shapeS 8) _ (by decide) _).mono ?_; (first | rw [en] | rw [em] | rw [ea]); rintro e w2 ⟨rfl, rfl⟩) | (go_at_call 31; refine (rspN_c (⟨8, S, D, N, M, A, I, J, U, F, C, Y, G, X, O, L⟩ : Ins) _).mono ?_; rintro e w2 ⟨rfl, hb2⟩; replace T := T.grow hb2; clear hb2; dsimp only) | ((with_reducible refine app_int rfl _ _ rfl T _ rfl rfl ?_ ?_); (focus simp); intro v5 w4 T; try simp only [Act.put, List.setIfInBounds_toArray, List.set_cons_succ, List.set_cons_zero]) | ((with_reducible refine app_bool rfl _ _ rfl T _ rfl rfl ?_ ?_); (focus simp); intro v6 w4 T; try simp only [Act.put, List.setIfInBounds_toArray, List.set_cons_succ, List.set_cons_zero]) | (go_at_call 48; refine (rlistP_c T rfl (by simp) (by simp)).mono ?_; rintro e w2 ⟨v, rfl, hown, hb2⟩; dsimp only))
  go_ret
  exact ⟨_, rfl, hown, hb2⟩
set_option maxRecDepth 8000 in
set_option maxHeartbeats 2000000 in
theorem rd_11 (S D N M A I J U F C Y : Int) (G X O L : Bool) (hR : rightB ⟨11, S, D, N, M, A, I, J, U, F, C, Y, G, X, O, L⟩ = true) (w : World) :
    Calls Tryz.prog 17 #[Ins.val ⟨11, S, D, N, M, A, I, J, U, F, C, Y, G, X, O, L⟩] w fun e w' => ∃ v, e = .returned v ∧ w'.ownsRow w.heap.size 3 1 v (listL (setAt [] []) 32).length (listV (setAt [] []) 32) ∧ Below w.heap.size w w' := by
  have T : Pair ⟨11, S, D, N, M, A, I, J, U, F, C, Y, G, X, O, L⟩ w [] [] (.slice none 0 0) (.slice none 0 0) (w.alloc (.cells (Ins.cells ⟨11, S, D, N, M, A, I, J, U, F, C, Y, G, X, O, L⟩) 23)) := ⟨one_start _ w, World.ownsRow_nil _ _ _ _, World.ownsRow_nil _ _ _ _⟩
  have en : hasB (shapeS 11) 110 = false := by decide +kernel
  have em : hasB (shapeS 11) 109 = false := by decide +kernel
  have ea : hasB (shapeS 11) 97 = false := by decide +kernel
  go_enter Tryz.func17, Tryz.ntmps17
  go_wp2_with (first | (refine wpList_load_if rfl 23 _ rfl w.heap.size rfl 23 _ (0, 0) _ T.one.box Tryz.underlying23 rfl (by kernel_rfl) ?_; simp only [Act.put, List.setIfInBounds_toArray, List.set_cons_succ, List.set_cons_zero]) | ((with_reducible refine wpList_load_cell rfl 3 _ rfl _ _ rfl _ (T.one.at _ _ rfl) (agg3 _) ?_); simp only [Act.put, List.setIfInBounds_toArray, List.set_cons_succ, List.set_cons_zero]) | (go_at_call 5; refine (rright_c (⟨11, S, D, N, M, A, I, J, U, F, C, Y, G, X, O, L⟩ : Ins) _).mono ?_; rw [hR]; rintro e w2 ⟨rfl, hb2⟩; replace T := T.grow hb2; clear hb2; dsimp only) | (go_at_call 46; refine (shape_c 11 _).mono ?_; rintro e w2 ⟨rfl, rfl⟩) | (go_at_call 47; refine (rhas_c (shapeS 11) _ (by decide) _).mono ?_; (first | rw [en] | rw [em] | rw [ea]); rintro e w2 ⟨rfl, rfl⟩) | (go_at_call 31; refine (rspN_c (⟨11, S, D, N, M, A, I, J, U, F, C, Y, G, X, O, L⟩ : Ins) _).mono ?_; rintro e w2 ⟨rfl, hb2⟩; replace T := T.grow hb2; clear hb2; dsimp only) | ((with_reducible refine app_int rfl _ _ rfl T _ rfl rfl ?_ ?_); (focus simp); intro v5 w4 T; try simp only [Act.put, List.setIfInBounds_toArray, List.set_cons_succ, List.set_cons_zero]) | ((with_reducible refine app_bool rfl _ _ rfl T _ rfl rfl ?_ ?_); (focus simp); intro v6 w4 T; try simp only [Act.put, List.setIfInBounds_toArray, List.set_cons_succ, List.set_cons_zero]) | (go_at_call 48; refine (rlist_nil _).mono ?_; rintro e w2 ⟨rfl, rfl⟩))
  go_ret
  refine ⟨_, rfl, ?_, T.one.below⟩
  rw [set_none]
  exact World.ownsRow_nil _ _ _ _
set_option maxRecDepth 8000 in
set_option maxHeartbeats 2000000 in
theorem rd_14 (S D N M A I J U F C Y : Int) (G X O L : Bool) (hR : rightB ⟨14, S, D, N, M, A, I, J, U, F, C, Y, G, X, O, L⟩ = true) (w : World) :
    Calls Tryz.prog 17 #[Ins.val ⟨14, S, D, N, M, A, I, J, U, F, C, Y, G, X, O, L⟩] w fun e w' => ∃ v, e = .returned v ∧ w'.ownsRow w.heap.size 3 1 v (listL (setAt [D] [false]) 32).length (listV (setAt [D] [false]) 32) ∧ Below w.heap.size w w' := by
  have T : Pair ⟨14, S, D, N, M, A, I, J, U, F, C, Y, G, X, O, L⟩ w [] [] (.slice none 0 0) (.slice none 0 0) (w.alloc (.cells (Ins.cells ⟨14, S, D, N, M, A, I, J, U, F, C, Y, G, X, O, L⟩) 23)) := ⟨one_start _ w, World.ownsRow_nil _ _ _ _, World.ownsRow_nil _ _ _ _⟩
  have en : hasB (shapeS 14) 110 = false := by decide +kernel
  have em : hasB (shapeS 14) 109 = false := by decide +kernel
  have ea : hasB (shapeS 14) 97 = false := by decide +kernel
  go_enter Tryz.func17, Tryz.ntmps17
  go_wp2_with (first | (refine wpList_load_if rfl 23 _ rfl w.heap.size rfl 23 _ (0, 0) _ T.one.box Tryz.underlying23 rfl (by kernel_rfl) ?_; simp only [Act.put, List.setIfInBounds_toArray, List.set_cons_succ, List.set_cons_zero]) | ((with_reducible refine wpList_load_cell rfl 3 _ rfl _ _ rfl _ (T.one.at _ _ rfl) (agg3 _) ?_); simp only [Act.put, List.setIfInBounds_toArray, List.set_cons_succ, List.set_cons_zero]) | (go_at_call 5; refine (rright_c (⟨14, S, D, N, M, A, I, J, U, F, C, Y, G, X, O, L⟩ : Ins) _).mono ?_; rw [hR]; rintro e w2 ⟨rfl, hb2⟩; replace T := T.grow hb2; clear hb2; dsimp only) | (go_at_call 46; refine (shape_c 14 _).mono ?_; rintro e w2 ⟨rfl, rfl⟩) | (go_at_call 47; refine (rhas_c (shapeS 14) _ (by decide) _).mono ?_; (first | rw [en] | rw [em] | rw [ea]); rintro e w2 ⟨rfl, rfl⟩) | (go_at_call 31; refine (rspN_c (⟨14, S, D, N, M, A, I, J, U, F, C, Y, G, X, O, L⟩ : Ins) _).mono ?_; rintro e w2 ⟨rfl, hb2⟩; replace T := T.grow hb2; clear hb2; dsimp only) | ((with_reducible refine app_int rfl _ _ rfl T _ rfl rfl ?_ ?_); (focus simp); intro v5 w4 T; try simp only [Act.put, List.setIfInBounds_toArray, List.set_cons_succ, List.set_cons_zero]) | ((with_reducible refine app_bool rfl _ _ rfl T _ rfl rfl ?_ ?_); (focus simp); intro v6 w4 T; try simp only [Act.put, List.setIfInBounds_toArray, List.set_cons_succ, List.set_cons_zero]) | (go_at_call 48; refine (rlistP_c T rfl (by simp) (by simp)).mono ?_; rintro e w2 ⟨v, rfl, hown, hb2⟩; dsimp only))
  go_ret
  exact ⟨_, rfl, hown, hb2⟩
set_option maxRecDepth 8000 in
set_option maxHeartbeats 2000000 in
theorem rd_17 (S D N M A I J U F C Y : Int) (G X O L : Bool) (hR : rightB ⟨17, S, D, N, M, A, I, J, U, F, C, Y, G, X, O, L⟩ = true) (w : World) :
    Calls Tryz.prog 17 #[Ins.val ⟨17, S, D, N, M, A, I, J, U, F, C, Y, G, X, O, L⟩] w fun e w' => ∃ v, e = .returned v ∧ w'.ownsRow w.heap.size 3 1 v (listL (setAt [N] [spN (⟨17, S, D, N, M, A, I, J, U, F, C, Y, G, X, O, L⟩ : Ins)]) 32).length (listV (setAt [N] [spN (⟨17, S, D, N, M, A, I, J, U, F, C, Y, G, X, O, L⟩ : Ins)]) 32) ∧ Below w.heap.size w w' := by
  have T : Pair ⟨17, S, D, N, M, A, I, J, U, F, C, Y, G, X, O, L⟩ w [] [] (.slice none 0 0) (.slice none 0 0) (w.alloc (.cells (Ins.cells ⟨17, S, D, N, M, A, I, J, U, F, C, Y, G, X, O, L⟩) 23)) := ⟨one_start _ w, World.ownsRow_nil _ _ _ _, World.ownsRow_nil _ _ _ _⟩
  have en : hasB (shapeS 17) 110 = true := by decide +kernel
  have em : hasB (shapeS 17) 109 = false := by decide +kernel
  have ea : hasB (shapeS 17) 97 = false := by decide +kernel
  go_enter Tryz.func17, Tryz.ntmps17
  go_wp2_with (first | (refine wpList_load_if rfl 23 _ rfl w.heap.size rfl 23 _ (0, 0) _ T.one.box Tryz.underlying23 rfl (by kernel_rfl) ?_; simp only [Act.put, List.setIfInBounds_toArray, List.set_cons_succ, List.set_cons_zero]) | ((with_reducible refine wpList_load_cell rfl 3 _ rfl _ _ rfl _ (T.one.at _ _ rfl) (agg3 _) ?_); simp only [Act.put, List.setIfInBounds_toArray, List.set_cons_succ, List.set_cons_zero]) | (go_at_call 5; refine (rright_c (⟨17, S, D, N, M, A, I, J, U, F, C, Y, G, X, O, L⟩ : Ins) _).mono ?_; rw [hR]; rintro e w2 ⟨rfl, hb2⟩; replace T := T.grow hb2; clear hb2; dsimp only) | (go_at_call 46; refine (shape_c 17 _).mono ?_; rintro e w2 ⟨rfl, rfl⟩) | (go_at_call 47; refine (rhas_c (shapeS 17) _ (by decide) _).mono ?_; (first | rw [en] | rw [em] | rw [ea]); rintro e w2 ⟨rfl, rfl⟩) | (go_at_call 31; refine (rspN_c (⟨17, S, D, N, M, A, I, J, U, F, C, Y, G, X, O, L⟩ : Ins) _).mono ?_; rintro e w2 ⟨rfl, hb2⟩; replace T := T.grow hb2; clear hb2; dsimp only) | ((with_reducible refine app_int rfl _ _ rfl T _ rfl rfl ?_ ?_); (focus simp); intro v5 w4 T; try simp only [Act.put, List.setIfInBounds_toArray, List.set_cons_succ, List.set_cons_zero]) | ((with_reducible refine app_bool rfl _ _ rfl T _ rfl rfl ?_ ?_); (focus simp); intro v6 w4 T; try simp only [Act.put, List.setIfInBounds_toArray, List.set_cons_succ, List.set_cons_zero]) | (go_at_call 48; refine (rlistP_c T rfl (by simp) (by simp)).mono ?_; rintro e w2 ⟨v, rfl, hown, hb2⟩; dsimp only))
  go_ret
  exact ⟨_, rfl, hown, hb2⟩
set_option maxRecDepth 8000 in
set_option maxHeartbeats 2000000 in
theorem rd_20 (S D N M A I J U F C Y : Int) (G X O L : Bool) (hR : rightB ⟨20, S, D, N, M, A, I, J, U, F, C, Y, G, X, O, L⟩ = true) (w : World) :
    Calls Tryz.prog 17 #[Ins.val ⟨20, S, D, N, M, A, I, J, U, F, C, Y, G, X, O, L⟩] w fun e w' => ∃ v, e = .returned v ∧ w'.ownsRow w.heap.size 3 1 v (listL (setAt [N, M, D] [spN (⟨20, S, D, N, M, A, I, J, U, F, C, Y, G, X, O, L⟩ : Ins), false, false]) 32).length (listV (setAt [N, M, D] [spN (⟨20, S, D, N, M, A, I, J, U, F, C, Y, G, X, O, L⟩ : Ins), false, false]) 32) ∧ Below w.heap.size w w' := by
  have T : Pair ⟨20, S, D, N, M, A, I, J, U, F, C, Y, G, X, O, L⟩ w [] [] (.slice none 0 0) (.slice none 0 0) (w.alloc (.cells (Ins.cells ⟨20, S, D, N, M, A, I, J, U, F, C, Y, G, X, O, L⟩) 23)) := ⟨one_start _ w, World.ownsRow_nil _ _ _ _, World.ownsRow_nil _ _ _ _⟩
  have en : hasB (shapeS 20) 110 = true := by decide +kernel
  have em : hasB (shapeS 20) 109 = true := by decide +kernel
  have ea : hasB (shapeS 20) 97 = false := by decide +kernel
  go_enter Tryz.func17, Tryz.ntmps17
  go_wp2_with (first | (refine wpList_load_if rfl 23 _ rfl w.heap.size rfl 23 _ (0, 0) _ T.one.box Tryz.underlying23 rfl (by kernel_rfl) ?_; simp only [Act.put, List.setIfInBounds_toArray, List.set_cons_succ, List.set_cons_zero]) | ((with_reducible refine wpList_load_cell rfl 3 _ rfl _ _ rfl _ (T.one.at _ _ rfl) (agg3 _) ?_); simp only [Act.put, List.setIfInBounds_toArray, List.set_cons_succ, List.set_cons_zero]) | (go_at_call 5; refine (rright_c (⟨20, S, D, N, M, A, I, J, U, F, C, Y, G, X, O, L⟩ : Ins) _).mono ?_; rw [hR]; rintro e w2 ⟨rfl, hb2⟩; replace T := T.grow hb2; clear hb2; dsimp only) | (go_at_call 46; refine (shape_c 20 _).mono ?_; rintro e w2 ⟨rfl, rfl⟩) | (go_at_call 47; refine (rhas_c (shapeS 20) _ (by decide) _).mono ?_; (first | rw [en] | rw [em] | rw [ea]); rintro e w2 ⟨rfl, rfl⟩) | (go_at_call 31; refine (rspN_c (⟨20, S, D, N, M, A, I, J, U, F, C, Y, G, X, O, L⟩ : Ins) _).mono ?_; rintro e w2 ⟨rfl, hb2⟩; replace T := T.grow hb2; clear hb2; dsimp only) | ((with_reducible refine app_int rfl _ _ rfl T _ rfl rfl ?_ ?_); (focus simp); intro v5 w4 T; try simp only [Act.put, List.setIfInBounds_toArray, List.set_cons_succ, List.set_cons_zero]) | ((with_reducible refine app_bool rfl _ _ rfl T _ rfl rfl ?_ ?_); (focus simp); intro v6 w4 T; try simp only [Act.put, List.setIfInBounds_toArray, List.set_cons_succ, List.set_cons_zero]) | (go_at_call 48; refine (rlistP_c T rfl (by simp) (by simp)).mono ?_; rintro e w2 ⟨v, rfl, hown, hb2⟩; dsimp only))
  go_ret
  exact ⟨_, rfl, hown, hb2⟩
set_option maxRecDepth 8000 in
set_option maxHeartbeats 2000000 in
theorem rd_23 (S D N M A I J U F C Y : Int) (G X O L : Bool) (hR : rightB ⟨23, S, D, N, M, A, I, J, U, F, C, Y, G, X, O, L⟩ = true) (w : World) :
    Calls Tryz.prog 17 #[Ins.val ⟨23, S, D, N, M, A, I, J, U, F, C, Y, G, X, O, L⟩] w fun e w' => ∃ v, e = .returned v ∧ w'.ownsRow w.heap.size 3 1 v (listL (setAt [N] [spN (⟨23, S, D, N, M, A, I, J, U, F, C, Y, G, X, O, L⟩ : Ins)]) 32).length (listV (setAt [N] [spN (⟨23, S, D, N, M, A, I, J, U, F, C, Y, G, X, O, L⟩ : Ins)]) 32) ∧ Below w.heap.size w w' := by
  have T : Pair ⟨23, S, D, N, M, A, I, J, U, F, C, Y, G, X, O, L⟩ w [] [] (.slice none 0 0) (.slice none 0 0) (w.alloc (.cells (Ins.cells ⟨23, S, D, N, M, A, I, J, U, F, C, Y, G, X, O, L⟩) 23)) := ⟨one_start _ w, World.ownsRow_nil _ _ _ _, World.ownsRow_nil _ _ _ _⟩
  have en : hasB (shapeS 23) 110 = true := by decide +kernel
  have em : hasB (shapeS 23) 109 = false := by decide +kernel
  have ea : hasB (shapeS 23) 97 = false := by decide +kernel
  go_enter Tryz.func17, Tryz.ntmps17
  go_wp2_with (first | (refine wpList_load_if rfl 23 _ rfl w.heap.size rfl 23 _ (0, 0) _ T.one.box Tryz.underlying23 rfl (by kernel_rfl) ?_; simp only [Act.put, List.setIfInBounds_toArray, List.set_cons_succ, List.set_cons_zero]) | ((with_reducible refine wpList_load_cell rfl 3 _ rfl _ _ rfl _ (T.one.at _ _ rfl) (agg3 _) ?_); simp only [Act.put, List.setIfInBounds_toArray, List.set_cons_succ, List.set_cons_zero]) | (go_at_call 5; refine (rright_c (⟨23, S, D, N, M, A, I, J, U, F, C, Y, G, X, O, L⟩ : Ins) _).mono ?_; rw [hR]; rintro e w2 ⟨rfl, hb2⟩; replace T := T.grow hb2; clear hb2; dsimp only) | (go_at_call 46; refine (shape_c 23 _).mono ?_; rintro e w2 ⟨rfl, rfl⟩) | (go_at_call 47; refine (rhas_c (shapeS 23) _ (by decide) _).mono ?_; (first | rw [en] | rw [em] | rw [ea]); rintro e w2 ⟨rfl, rfl⟩) | (go_at_call 31; refine (rspN_c (⟨23, S, D, N, M, A, I, J, U, F, C, Y, G, X, O, L⟩ : Ins) _).mono ?_; rintro e w2 ⟨rfl, hb2⟩; replace T := T.grow hb2; clear hb2; dsimp only) | ((with_reducible refine app_int rfl _ _ rfl T _ rfl rfl ?_ ?_); (focus simp); intro v5 w4 T; try simp only [Act.put, List.setIfInBounds_toArray, List.set_cons_succ, List.set_cons_zero]) | ((with_reducible refine app_bool rfl _ _ rfl T _ rfl rfl ?_ ?_); (focus simp); intro v6 w4 T; try simp only [Act.put, List.setIfInBounds_toArray, List.set_cons_succ, List.set_cons_zero]) | (go_at_call 48; refine (rlistP_c T rfl (by simp) (by simp)).mono ?_; rintro e w2 ⟨v, rfl, hown, hb2⟩; dsimp only))
  go_ret
  exact ⟨_, rfl, hown, hb2⟩
set_option maxRecDepth 8000 in
set_option maxHeartbeats 2000000 in
theorem rd_26 (S D N M A I J U F C Y : Int) (G X O L : Bool) (hR : rightB ⟨26, S, D, N, M, A, I, J, U, F, C, Y, G, X, O, L⟩ = true) (w : World) :
    Calls Tryz.prog 17 #[Ins.val ⟨26, S, D, N, M, A, I, J, U, F, C, Y, G, X, O, L⟩] w fun e w' => ∃ v, e = .returned v ∧ w'.ownsRow w.heap.size 3 1 v (listL (setAt [] []) 32).length (listV (setAt [] []) 32) ∧ Below w.heap.size w w' := by
  have T : Pair ⟨26, S, D, N, M, A, I, J, U, F, C, Y, G, X, O, L⟩ w [] [] (.slice none 0 0) (.slice none 0 0) (w.alloc (.cells (Ins.cells ⟨26, S, D, N, M, A, I, J, U, F, C, Y, G, X, O, L⟩) 23)) := ⟨one_start _ w, World.ownsRow_nil _ _ _ _, World.ownsRow_nil _ _ _ _⟩
  have en : hasB (shapeS 26) 110 = false := by decide +kernel
  have em : hasB (shapeS 26) 109 = false := by decide +kernel
  have ea : hasB (shapeS 26) 97 = false := by decide +kernel
  go_enter Tryz.func17, Tryz.ntmps17
  go_wp2_with (first | (refine wpList_load_if rfl 23 _ rfl w.heap.size rfl 23 _ (0, 0) _ T.one.box Tryz.underlying23 rfl (by kernel_rfl) ?_; simp only [Act.put, List.setIfInBounds_toArray, List.set_cons_succ, List.set_cons_zero]) | ((with_reducible refine wpList_load_cell rfl 3 _ rfl _ _ rfl _ (T.one.at _ _ rfl) (agg3 _) ?_); simp only [Act.put, List.setIfInBounds_toArray, List.set_cons_succ, List.set_cons_zero]) | (go_at_call 5; refine (rright_c (⟨26, S, D, N, M, A, I, J, U, F, C, Y, G, X, O, L⟩ : Ins) _).mono ?_; rw [hR]; rintro e w2 ⟨rfl, hb2⟩; replace T := T.grow hb2; clear hb2; dsimp only) | (go_at_call 46; refine (shape_c 26 _).mono ?_; rintro e w2 ⟨rfl, rfl⟩) | (go_at_call 47; refine (rhas_c (shapeS 26) _ (by decide) _).mono ?_; (first | rw [en] | rw [em] | rw [ea]); rintro e w2 ⟨rfl, rfl⟩) | (go_at_call 31; refine (rspN_c (⟨26, S, D, N, M, A, I, J, U, F, C, Y, G, X, O, L⟩ : Ins) _).mono ?_; rintro e w2 ⟨rfl, hb2⟩; replace T := T.grow hb2; clear hb2; dsimp only) | ((with_reducible refine app_int rfl _ _ rfl T _ rfl rfl ?_ ?_); (focus simp); intro v5 w4 T; try simp only [Act.put, List.setIfInBounds_toArray, List.set_cons_succ, List.set_cons_zero]) | ((with_reducible refine app_bool rfl _ _ rfl T _ rfl rfl ?_ ?_); (focus simp); intro v6 w4 T; try simp only [Act.put, List.setIfInBounds_toArray, List.set_cons_succ, List.set_cons_zero]) | (go_at_call 48; refine (rlist_nil _).mono ?_; rintro e w2 ⟨rfl, rfl⟩))
  go_ret
  refine ⟨_, rfl, ?_, T.one.below⟩
  rw [set_none]
  exact World.ownsRow_nil _ _ _ _
set_option maxRecDepth 8000 in
set_option maxHeartbeats 2000000 in
theorem rd_29 (S D N M A I J U F C Y : Int) (G X O L : Bool) (hR : rightB ⟨29, S, D, N, M, A, I, J, U, F, C, Y, G, X, O, L⟩ = true) (w : World) :
    Calls Tryz.prog 17 #[Ins.val ⟨29, S, D, N, M, A, I, J, U, F, C, Y, G, X, O, L⟩] w fun e w' => ∃ v, e = .returned v ∧ w'.ownsRow w.heap.size 3 1 v (listL (setAt [] []) 32).length (listV (setAt [] []) 32) ∧ Below w.heap.size w w' := by
  have T : Pair ⟨29, S, D, N, M, A, I, J, U, F, C, Y, G, X, O, L⟩ w [] [] (.slice none 0 0) (.slice none 0 0) (w.alloc (.cells (Ins.cells ⟨29, S, D, N, M, A, I, J, U, F, C, Y, G, X, O, L⟩) 23)) := ⟨one_start _ w, World.ownsRow_nil _ _ _ _, World.ownsRow_nil _ _ _ _⟩
  have en : hasB (shapeS 29) 110 = false := by decide +kernel
  have em : hasB (shapeS 29) 109 = false := by decide +kernel
  have ea : hasB (shapeS 29) 97 = false := by decide +kernel
  go_enter Tryz.func17, Tryz.ntmps17
  go_wp2_with (first | (refine wpList_load_if rfl 23 _ rfl w.heap.size rfl 23 _ (0, 0) _ T.one.box Tryz.underlying23 rfl (by kernel_rfl) ?_; simp only [Act.put, List.setIfInBounds_toArray, List.set_cons_succ, List.set_cons_zero]) | ((with_reducible refine wpList_load_cell rfl 3 _ rfl _ _ rfl _ (T.one.at _ _ rfl) (agg3 _) ?_); simp only [Act.put, List.setIfInBounds_toArray, List.set_cons_succ, List.set_cons_zero]) | (go_at_call 5; refine (rright_c (⟨29, S, D, N, M, A, I, J, U, F, C, Y, G, X, O, L⟩ : Ins) _).mono ?_; rw [hR]; rintro e w2 ⟨rfl, hb2⟩; replace T := T.grow hb2; clear hb2; dsimp only) | (go_at_call 46; refine (shape_c 29 _).mono ?_; rintro e w2 ⟨rfl, rfl⟩) | (go_at_call 47; refine (rhas_c (shapeS 29) _ (by decide) _).mono ?_; (first | rw [en] | rw [em] | rw [ea]); rintro e w2 ⟨rfl, rfl⟩) | (go_at_call 31; refine (rspN_c (⟨29, S, D, N, M, A, I, J, U, F, C, Y, G, X, O, L⟩ : Ins) _).mono ?_; rintro e w2 ⟨rfl, hb2⟩; replace T := T.grow hb2; clear hb2; dsimp only) | ((with_reducible refine app_int rfl _ _ rfl T _ rfl rfl ?_ ?_); (focus simp); intro v5 w4 T; try simp only [Act.put, List.setIfInBounds_toArray, List.set_cons_succ, List.set_cons_zero]) | ((with_reducible refine app_bool rfl _ _ rfl T _ rfl rfl ?_ ?_); (focus simp); intro v6 w4 T; try simp only [Act.put, List.setIfInBounds_toArray, List.set_cons_succ, List.set_cons_zero]) | (go_at_call 48; refine (rlist_nil _).mono ?_; rintro e w2 ⟨rfl, rfl⟩))
  go_ret
  refine ⟨_, rfl, ?_, T.one.below⟩
  rw [set_none]
  exact World.ownsRow_nil _ _ _ _
set_option maxRecDepth 8000 in
set_option maxHeartbeats 2000000 in
theorem rd_32 (S D N M A I J U F C Y : Int) (G X O L : Bool) (hR : rightB ⟨32, S, D, N, M, A, I, J, U, F, C, Y, G, X, O, L⟩ = true) (w : World) :
    Calls Tryz.prog 17 #[Ins.val ⟨32, S, D, N, M, A, I, J, U, F, C, Y, G, X, O, L⟩] w fun e w' => ∃ v, e = .returned v ∧ w'.ownsRow w.heap.size 3 1 v (listL (setAt [D] [false]) 32).length (listV (setAt [D] [false]) 32) ∧ Below w.heap.size w w' := by
  have T : Pair ⟨32, S, D, N, M, A, I, J, U, F, C, Y, G, X, O, L⟩ w [] [] (.slice none 0 0) (.slice none 0 0) (w.alloc (.cells (Ins.cells ⟨32, S, D, N, M, A, I, J, U, F, C, Y, G, X, O, L⟩) 23)) := ⟨one_start _ w, World.ownsRow_nil _ _ _ _, World.ownsRow_nil _ _ _ _⟩
  have en : hasB (shapeS 32) 110 = false := by decide +kernel
  have em : hasB (shapeS 32) 109 = false := by decide +kernel
  have ea : hasB (shapeS 32) 97 = false := by decide +kernel
  go_enter Tryz.func17, Tryz.ntmps17
  go_wp2_with (first | (refine wpList_load_if rfl 23 _ rfl w.heap.size rfl 23 _ (0, 0) _ T.one.box Tryz.underlying23 rfl (by kernel_rfl) ?_; simp only [Act.put, List.setIfInBounds_toArray, List.set_cons_succ, List.set_cons_zero]) | ((with_reducible refine wpList_load_cell rfl 3 _ rfl _ _ rfl _ (T.one.at _ _ rfl) (agg3 _) ?_); simp only [Act.put, List.setIfInBounds_toArray, List.set_cons_succ, List.set_cons_zero]) | (go_at_call 5; refine (rright_c (⟨32, S, D, N, M, A, I, J, U, F, C, Y, G, X, O, L⟩ : Ins) _).mono ?_; rw [hR]; rintro e w2 ⟨rfl, hb2⟩; replace T := T.grow hb2; clear hb2; dsimp only) | (go_at_call 46; refine (shape_c 32 _).mono ?_; rintro e w2 ⟨rfl, rfl⟩) | (go_at_call 47; refine (rhas_c (shapeS 32) _ (by decide) _).mono ?_; (first | rw [en] | rw [em] | rw [ea]); rintro e w2 ⟨rfl, rfl⟩) | (go_at_call 31; refine (rspN_c (⟨32, S, D, N, M, A, I, J, U, F, C, Y, G, X, O, L⟩ : Ins) _).mono ?_; rintro e w2 ⟨rfl, hb2⟩; replace T := T.grow hb2; clear hb2; dsimp only) | ((with_reducible refine app_int rfl _ _ rfl T _ rfl rfl ?_ ?_); (focus simp); intro v5 w4 T; try simp only [Act.put, List.setIfInBounds_toArray, List.set_cons_succ, List.set_cons_zero]) | ((with_reducible refine app_bool rfl _ _ rfl T _ rfl rfl ?_ ?_); (focus simp); intro v6 w4 T; try simp only [Act.put, List.setIfInBounds_toArray, List.set_cons_succ, List.set_cons_zero]) | (go_at_call 48; refine (rlistP_c T rfl (by simp) (by simp)).mono ?_; rintro e w2 ⟨v, rfl, hown, hb2⟩; dsimp only))
  go_ret
  exact ⟨_, rfl, hown, hb2⟩
set_option maxRecDepth 8000 in
set_option maxHeartbeats 2000000 in
theorem rd_35 (S D N M A I J U F C Y : Int) (G X O L : Bool) (hR : rightB ⟨35, S, D, N, M, A, I, J, U, F, C, Y, G, X, O, L⟩ = true) (w : World) :
    Calls Tryz.prog 17 #[Ins.val ⟨35, S, D, N, M, A, I, J, U, F, C, Y, G, X, O, L⟩] w fun e w' => ∃ v, e = .returned v ∧ w'.ownsRow w.heap.size 3 1 v (listL (setAt [] []) 32).length (listV (setAt [] []) 32) ∧ Below w.heap.size w w' := by
  have T : Pair ⟨35, S, D, N, M, A, I, J, U, F, C, Y, G, X, O, L⟩ w [] [] (.slice none 0 0) (.slice none 0 0) (w.alloc (.cells (Ins.cells ⟨35, S, D, N, M, A, I, J, U, F, C, Y, G, X, O, L⟩) 23)) := ⟨one_start _ w, World.ownsRow_nil _ _ _ _, World.ownsRow_nil _ _ _ _⟩
  have en : hasB (shapeS 35) 110 = false := by decide +kernel
  have em : hasB (shapeS 35) 109 = false := by decide +kernel
  have ea : hasB (shapeS 35) 97 = false := by decide +kernel
  go_enter Tryz.func17, Tryz.ntmps17
  go_wp2_with (first | (refine wpList_load_if rfl 23 _ rfl w.heap.size rfl 23 _ (0, 0) _ T.one.box Tryz.underlying23 rfl (by kernel_rfl) ?_; simp only [Act.put, List.setIfInBounds_toArray, List.set_cons_succ, List.set_cons_zero]) | ((with_reducible refine wpList_load_cell rfl 3 _ rfl _ _ rfl _ (T.one.at _ _ rfl) (agg3 _) ?_); simp only [Act.put, List.setIfInBounds_toArray, List.set_cons_succ, List.set_cons_zero]) | (go_at_call 5; refine (rright_c (⟨35, S, D, N, M, A, I, J, U, F, C, Y, G, X, O, L⟩ : Ins) _).mono ?_; rw [hR]; rintro e w2 ⟨rfl, hb2⟩; replace T := T.grow hb2; clear hb2; dsimp only) | (go_at_call 46; refine (shape_c 35 _).mono ?_; rintro e w2 ⟨rfl, rfl⟩) | (go_at_call 47; refine (rhas_c (shapeS 35) _ (by decide) _).mono ?_; (first | rw [en] | rw [em] | rw [ea]); rintro e w2 ⟨rfl, rfl⟩) | (go_at_call 31; refine (rspN_c (⟨35, S, D, N, M, A, I, J, U, F, C, Y, G, X, O, L⟩ : Ins) _).mono ?_; rintro e w2 ⟨rfl, hb2⟩; replace T := T.grow hb2; clear hb2; dsimp only) | ((with_reducible refine app_int rfl _ _ rfl T _ rfl rfl ?_ ?_); (focus simp); intro v5 w4 T; try simp only [Act.put, List.setIfInBounds_toArray, List.set_cons_succ, List.set_cons_zero]) | ((with_reducible refine app_bool rfl _ _ rfl T _ rfl rfl ?_ ?_); (focus simp); intro v6 w4 T; try simp only [Act.put, List.setIfInBounds_toArray, List.set_cons_succ, List.set_cons_zero]) | (go_at_call 48; refine (rlist_nil _).mono ?_; rintro e w2 ⟨rfl, rfl⟩))
  go_ret
  refine ⟨_, rfl, ?_, T.one.below⟩
  rw [set_none]
  exact World.ownsRow_nil _ _ _ _
set_option maxRecDepth 8000 in
set_option maxHeartbeats 2000000 in
theorem rd_5y (S D N M A I J U F C Y : Int) (G X O L : Bool) (hR : rightB ⟨5, S, D, N, M, A, I, J, U, F, C, Y, G, X, O, L⟩ = true) (hs : (S == 3) = true) (w : World) :
    Calls Tryz.prog 17 #[Ins.val ⟨5, S, D, N, M, A, I, J, U, F, C, Y, G, X, O, L⟩] w fun e w' => ∃ v, e = .returned v ∧ w'.ownsRow w.heap.size 3 1 v (listL (setAt [D] [false]) 32).length (listV (setAt [D] [false]) 32) ∧ Below w.heap.size w w' := by
  have T : Pair ⟨5, S, D, N, M, A, I, J, U, F, C, Y, G, X, O, L⟩ w [] [] (.slice none 0 0) (.slice none 0 0) (w.alloc (.cells (Ins.cells ⟨5, S, D, N, M, A, I, J, U, F, C, Y, G, X, O, L⟩) 23)) := ⟨one_start _ w, World.ownsRow_nil _ _ _ _, World.ownsRow_nil _ _ _ _⟩
  have en : hasB (shapeS 5) 110 = false := by decide +kernel
  have em : hasB (shapeS 5) 109 = false := by decide +kernel
  have ea : hasB (shapeS 5) 97 = false := by decide +kernel
  go_enter Tryz.func17, Tryz.ntmps17
  go_wp2_with (first | (refine wpList_load_if rfl 23 _ rfl w.heap.size rfl 23 _ (0, 0) _ T.one.box Tryz.underlying23 rfl (by kernel_rfl) ?_; simp only [Act.put, List.setIfInBounds_toArray, List.set_cons_succ, List.set_cons_zero]) | ((with_reducible refine wpList_load_cell rfl 3 _ rfl _ _ rfl _ (T.one.at _ _ rfl) (agg3 _) ?_); simp only [Act.put, List.setIfInBounds_toArray, List.set_cons_succ, List.set_cons_zero]) | (go_at_call 5; refine (rright_c (⟨5, S, D, N, M, A, I, J, U, F, C, Y, G, X, O, L⟩ : Ins) _).mono ?_; rw [hR]; rintro e w2 ⟨rfl, hb2⟩; replace T := T.grow hb2; clear hb2; dsimp only) | (go_at_call 46; refine (shape_c 5 _).mono ?_; rintro e w2 ⟨rfl, rfl⟩) | (go_at_call 47; refine (rhas_c (shapeS 5) _ (by decide) _).mono ?_; (first | rw [en] | rw [em] | rw [ea]); rintro e w2 ⟨rfl, rfl⟩) | (go_at_call 31; refine (rspN_c (⟨5, S, D, N, M, A, I, J, U, F, C, Y, G, X, O, L⟩ : Ins) _).mono ?_; rintro e w2 ⟨rfl, hb2⟩; replace T := T.grow hb2; clear hb2; dsimp only) | ((with_reducible refine app_int rfl _ _ rfl T _ rfl rfl ?_ ?_); (focus simp); intro v5 w4 T; try simp only [Act.put, List.setIfInBounds_toArray, List.set_cons_succ, List.set_cons_zero]) | ((with_reducible refine app_bool rfl _ _ rfl T _ rfl rfl ?_ ?_); (focus simp); intro v6 w4 T; try simp only [Act.put, List.setIfInBounds_toArray, List.set_cons_succ, List.set_cons_zero]) | (go_at_call 48; refine (rlistP_c T rfl (by simp) (by simp)).mono ?_; rintro e w2 ⟨v, rfl, hown, hb2⟩; dsimp only))
  go_ret
  exact ⟨_, rfl, hown, hb2⟩
end Go.Proofs.YtjmdgfimmjodjaaGreatDoor
