/- Whether an instruction is right, as the document's own answer to chapter 2 tells it: contracts, an Op each. -/
import Derived.Test.YtjmdgfimmjodjaaGreatDoorV09
namespace Go.Proofs.YtjmdgfimmjodjaaGreatDoor
open Go.RowKit Go.Rel
set_option linter.unusedVariables false

set_option maxRecDepth 4000 in
set_option maxHeartbeats 4000000 in
theorem rr20 (S D N M A I J U F C Y : Int) (G X O L : Bool) (w : World) :
    Calls Tryz.prog 5 #[(⟨20, S, D, N, M, A, I, J, U, F, C, Y, G, X, O, L⟩ : Ins).val] w fun e w' => e = .returned (.bool (rightR ⟨20, S, D, N, M, A, I, J, U, F, C, Y, G, X, O, L⟩)) ∧ Below w.heap.size w w' := by
  have BX := heap_alloc_new w (.cells #[vI 20, vI S, vI D, vI N, vI M, vI A, vI I, vI J, vI U, vI F, vI C, vI Y, .bool G, .bool X, .bool O, .bool L] 23)
  have HB := below_alloc w (.cells #[vI 20, vI S, vI D, vI N, vI M, vI A, vI I, vI J, vI U, vI F, vI C, vI Y, .bool G, .bool X, .bool O, .bool L] 23)
  have hR : Hid (rightR ⟨20, S, D, N, M, A, I, J, U, F, C, Y, G, X, O, L⟩ = (clearB ⟨20, S, D, N, M, A, I, J, U, F, C, Y, G, X, O, L⟩ && ((U == 0 || U == 3)))) := rfl
  have HC := rclear_c 20 S D N M A I J U F C Y G X O L
  replace HC := show Hid _ from HC
  generalize rightR ⟨20, S, D, N, M, A, I, J, U, F, C, Y, G, X, O, L⟩ = R at hR ⊢
  generalize clearB ⟨20, S, D, N, M, A, I, J, U, F, C, Y, G, X, O, L⟩ = cl at hR HC
  cases cl
  · go_enter Tryz.func5, Tryz.ntmps5
    go_wp2_with (first | (go_at_call 21; refine (HC.out _).mono ?_; rintro e w1 ⟨rfl, hb⟩; replace BX := keepB BX hb; replace HB := thenH HB hb; clear hb HC; dsimp only; obtain ⟨c0, c1, c2, c3, c4, c5, c6, c7, c8, c9, c10, c11, c12, c13, c14, c15⟩ := cells16 BX; clear BX) | ((with_reducible refine wpList_load_if rfl 23 _ rfl w.heap.size rfl 23 _ (0, 0) _ BX Tryz.underlying23 rfl (infoK _ rfl) ?_); simp only [Act.put, List.setIfInBounds_toArray, List.set_cons_succ, List.set_cons_zero]))
    go_ret
    exact ⟨ret_bool (by rw [hR.out]; rfl), HB.out⟩
  · go_enter Tryz.func5, Tryz.ntmps5
    go_wp2_with (first | (go_at_call 21; refine (HC.out _).mono ?_; rintro e w1 ⟨rfl, hb⟩; replace BX := keepB BX hb; replace HB := thenH HB hb; clear hb HC; dsimp only; obtain ⟨c0, c1, c2, c3, c4, c5, c6, c7, c8, c9, c10, c11, c12, c13, c14, c15⟩ := cells16 BX; clear BX) | ((with_reducible refine wpList_load_if rfl 23 _ rfl w.heap.size rfl 23 _ (0, 0) _ BX Tryz.underlying23 rfl (infoK _ rfl) ?_); simp only [Act.put, List.setIfInBounds_toArray, List.set_cons_succ, List.set_cons_zero]) | (go_at_call 22; refine (in_c _ _ _ _).mono ?_; rintro e w' ⟨rfl, rfl⟩; dsimp only) | (go_at_call 24; refine (step_c _ _ _ _ (by decide) _).mono ?_; rintro e w' ⟨rfl, rfl⟩; dsimp only) | (go_at_call 23; refine (refMask_c _ _ _ _).mono ?_; rintro e w' ⟨rfl, rfl⟩; dsimp only) | (go_at_call 25; refine (rsys_c _ _).mono ?_; rintro e w' ⟨rfl, hb⟩; replace HB : Hid (Below w.heap.size w w') := HB.out.trans (hb.mono HB.out.size); clear hb; dsimp only))
    all_goals (go_ret; refine ⟨ret_bool ?_, HB.out⟩; rw [hR.out]; first | rfl | (clear c0 c1 c2 c3 c4 c5 c6 c7 c8 c9 c10 c11 c12 c13 c14 c15 HB hR; first | (simp [*]; done) | (simp [*]; intros; rfl)))
set_option maxRecDepth 4000 in
set_option maxHeartbeats 4000000 in
theorem rr21 (S D N M A I J U F C Y : Int) (G X O L : Bool) (w : World) :
    Calls Tryz.prog 5 #[(⟨21, S, D, N, M, A, I, J, U, F, C, Y, G, X, O, L⟩ : Ins).val] w fun e w' => e = .returned (.bool (rightR ⟨21, S, D, N, M, A, I, J, U, F, C, Y, G, X, O, L⟩)) ∧ Below w.heap.size w w' := by
  have BX := heap_alloc_new w (.cells #[vI 21, vI S, vI D, vI N, vI M, vI A, vI I, vI J, vI U, vI F, vI C, vI Y, .bool G, .bool X, .bool O, .bool L] 23)
  have HB := below_alloc w (.cells #[vI 21, vI S, vI D, vI N, vI M, vI A, vI I, vI J, vI U, vI F, vI C, vI Y, .bool G, .bool X, .bool O, .bool L] 23)
  have hR : Hid (rightR ⟨21, S, D, N, M, A, I, J, U, F, C, Y, G, X, O, L⟩ = (clearB ⟨21, S, D, N, M, A, I, J, U, F, C, Y, G, X, O, L⟩ && (inB S 0 1))) := rfl
  have HC := rclear_c 21 S D N M A I J U F C Y G X O L
  replace HC := show Hid _ from HC
  generalize rightR ⟨21, S, D, N, M, A, I, J, U, F, C, Y, G, X, O, L⟩ = R at hR ⊢
  generalize clearB ⟨21, S, D, N, M, A, I, J, U, F, C, Y, G, X, O, L⟩ = cl at hR HC
  cases cl
  · go_enter Tryz.func5, Tryz.ntmps5
    go_wp2_with (first | (go_at_call 21; refine (HC.out _).mono ?_; rintro e w1 ⟨rfl, hb⟩; replace BX := keepB BX hb; replace HB := thenH HB hb; clear hb HC; dsimp only; obtain ⟨c0, c1, c2, c3, c4, c5, c6, c7, c8, c9, c10, c11, c12, c13, c14, c15⟩ := cells16 BX; clear BX) | ((with_reducible refine wpList_load_if rfl 23 _ rfl w.heap.size rfl 23 _ (0, 0) _ BX Tryz.underlying23 rfl (infoK _ rfl) ?_); simp only [Act.put, List.setIfInBounds_toArray, List.set_cons_succ, List.set_cons_zero]))
    go_ret
    exact ⟨ret_bool (by rw [hR.out]; rfl), HB.out⟩
  · go_enter Tryz.func5, Tryz.ntmps5
    go_wp2_with (first | (go_at_call 21; refine (HC.out _).mono ?_; rintro e w1 ⟨rfl, hb⟩; replace BX := keepB BX hb; replace HB := thenH HB hb; clear hb HC; dsimp only; obtain ⟨c0, c1, c2, c3, c4, c5, c6, c7, c8, c9, c10, c11, c12, c13, c14, c15⟩ := cells16 BX; clear BX) | ((with_reducible refine wpList_load_if rfl 23 _ rfl w.heap.size rfl 23 _ (0, 0) _ BX Tryz.underlying23 rfl (infoK _ rfl) ?_); simp only [Act.put, List.setIfInBounds_toArray, List.set_cons_succ, List.set_cons_zero]) | (go_at_call 22; refine (in_c _ _ _ _).mono ?_; rintro e w' ⟨rfl, rfl⟩; dsimp only) | (go_at_call 24; refine (step_c _ _ _ _ (by decide) _).mono ?_; rintro e w' ⟨rfl, rfl⟩; dsimp only) | (go_at_call 23; refine (refMask_c _ _ _ _).mono ?_; rintro e w' ⟨rfl, rfl⟩; dsimp only) | (go_at_call 25; refine (rsys_c _ _).mono ?_; rintro e w' ⟨rfl, hb⟩; replace HB : Hid (Below w.heap.size w w') := HB.out.trans (hb.mono HB.out.size); clear hb; dsimp only))
    all_goals (go_ret; refine ⟨ret_bool ?_, HB.out⟩; rw [hR.out]; first | rfl | (clear c0 c1 c2 c3 c4 c5 c6 c7 c8 c9 c10 c11 c12 c13 c14 c15 HB hR; first | (simp [*]; done) | (simp [*]; intros; rfl)))
set_option maxRecDepth 4000 in
set_option maxHeartbeats 4000000 in
theorem rr22 (S D N M A I J U F C Y : Int) (G X O L : Bool) (w : World) :
    Calls Tryz.prog 5 #[(⟨22, S, D, N, M, A, I, J, U, F, C, Y, G, X, O, L⟩ : Ins).val] w fun e w' => e = .returned (.bool (rightR ⟨22, S, D, N, M, A, I, J, U, F, C, Y, G, X, O, L⟩)) ∧ Below w.heap.size w w' := by
  have BX := heap_alloc_new w (.cells #[vI 22, vI S, vI D, vI N, vI M, vI A, vI I, vI J, vI U, vI F, vI C, vI Y, .bool G, .bool X, .bool O, .bool L] 23)
  have HB := below_alloc w (.cells #[vI 22, vI S, vI D, vI N, vI M, vI A, vI I, vI J, vI U, vI F, vI C, vI Y, .bool G, .bool X, .bool O, .bool L] 23)
  have hR : Hid (rightR ⟨22, S, D, N, M, A, I, J, U, F, C, Y, G, X, O, L⟩ = (clearB ⟨22, S, D, N, M, A, I, J, U, F, C, Y, G, X, O, L⟩ && (true))) := rfl
  have HC := rclear_c 22 S D N M A I J U F C Y G X O L
  replace HC := show Hid _ from HC
  generalize rightR ⟨22, S, D, N, M, A, I, J, U, F, C, Y, G, X, O, L⟩ = R at hR ⊢
  generalize clearB ⟨22, S, D, N, M, A, I, J, U, F, C, Y, G, X, O, L⟩ = cl at hR HC
  cases cl
  · go_enter Tryz.func5, Tryz.ntmps5
    go_wp2_with (first | (go_at_call 21; refine (HC.out _).mono ?_; rintro e w1 ⟨rfl, hb⟩; replace BX := keepB BX hb; replace HB := thenH HB hb; clear hb HC; dsimp only; obtain ⟨c0, c1, c2, c3, c4, c5, c6, c7, c8, c9, c10, c11, c12, c13, c14, c15⟩ := cells16 BX; clear BX) | ((with_reducible refine wpList_load_if rfl 23 _ rfl w.heap.size rfl 23 _ (0, 0) _ BX Tryz.underlying23 rfl (infoK _ rfl) ?_); simp only [Act.put, List.setIfInBounds_toArray, List.set_cons_succ, List.set_cons_zero]))
    go_ret
    exact ⟨ret_bool (by rw [hR.out]; rfl), HB.out⟩
  · go_enter Tryz.func5, Tryz.ntmps5
    go_wp2_with (first | (go_at_call 21; refine (HC.out _).mono ?_; rintro e w1 ⟨rfl, hb⟩; replace BX := keepB BX hb; replace HB := thenH HB hb; clear hb HC; dsimp only; obtain ⟨c0, c1, c2, c3, c4, c5, c6, c7, c8, c9, c10, c11, c12, c13, c14, c15⟩ := cells16 BX; clear BX) | ((with_reducible refine wpList_load_if rfl 23 _ rfl w.heap.size rfl 23 _ (0, 0) _ BX Tryz.underlying23 rfl (infoK _ rfl) ?_); simp only [Act.put, List.setIfInBounds_toArray, List.set_cons_succ, List.set_cons_zero]) | (go_at_call 22; refine (in_c _ _ _ _).mono ?_; rintro e w' ⟨rfl, rfl⟩; dsimp only) | (go_at_call 24; refine (step_c _ _ _ _ (by decide) _).mono ?_; rintro e w' ⟨rfl, rfl⟩; dsimp only) | (go_at_call 23; refine (refMask_c _ _ _ _).mono ?_; rintro e w' ⟨rfl, rfl⟩; dsimp only) | (go_at_call 25; refine (rsys_c _ _).mono ?_; rintro e w' ⟨rfl, hb⟩; replace HB : Hid (Below w.heap.size w w') := HB.out.trans (hb.mono HB.out.size); clear hb; dsimp only))
    all_goals (go_ret; refine ⟨ret_bool ?_, HB.out⟩; rw [hR.out]; first | rfl | (clear c0 c1 c2 c3 c4 c5 c6 c7 c8 c9 c10 c11 c12 c13 c14 c15 HB hR; first | (simp [*]; done) | (simp [*]; intros; rfl)))
set_option maxRecDepth 4000 in
set_option maxHeartbeats 4000000 in
theorem rr23 (S D N M A I J U F C Y : Int) (G X O L : Bool) (w : World) :
    Calls Tryz.prog 5 #[(⟨23, S, D, N, M, A, I, J, U, F, C, Y, G, X, O, L⟩ : Ins).val] w fun e w' => e = .returned (.bool (rightR ⟨23, S, D, N, M, A, I, J, U, F, C, Y, G, X, O, L⟩)) ∧ Below w.heap.size w w' := by
  have BX := heap_alloc_new w (.cells #[vI 23, vI S, vI D, vI N, vI M, vI A, vI I, vI J, vI U, vI F, vI C, vI Y, .bool G, .bool X, .bool O, .bool L] 23)
  have HB := below_alloc w (.cells #[vI 23, vI S, vI D, vI N, vI M, vI A, vI I, vI J, vI U, vI F, vI C, vI Y, .bool G, .bool X, .bool O, .bool L] 23)
  have hR : Hid (rightR ⟨23, S, D, N, M, A, I, J, U, F, C, Y, G, X, O, L⟩ = (clearB ⟨23, S, D, N, M, A, I, J, U, F, C, Y, G, X, O, L⟩ && (inB S 0 1))) := rfl
  have HC := rclear_c 23 S D N M A I J U F C Y G X O L
  replace HC := show Hid _ from HC
  generalize rightR ⟨23, S, D, N, M, A, I, J, U, F, C, Y, G, X, O, L⟩ = R at hR ⊢
  generalize clearB ⟨23, S, D, N, M, A, I, J, U, F, C, Y, G, X, O, L⟩ = cl at hR HC
  cases cl
  · go_enter Tryz.func5, Tryz.ntmps5
    go_wp2_with (first | (go_at_call 21; refine (HC.out _).mono ?_; rintro e w1 ⟨rfl, hb⟩; replace BX := keepB BX hb; replace HB := thenH HB hb; clear hb HC; dsimp only; obtain ⟨c0, c1, c2, c3, c4, c5, c6, c7, c8, c9, c10, c11, c12, c13, c14, c15⟩ := cells16 BX; clear BX) | ((with_reducible refine wpList_load_if rfl 23 _ rfl w.heap.size rfl 23 _ (0, 0) _ BX Tryz.underlying23 rfl (infoK _ rfl) ?_); simp only [Act.put, List.setIfInBounds_toArray, List.set_cons_succ, List.set_cons_zero]))
    go_ret
    exact ⟨ret_bool (by rw [hR.out]; rfl), HB.out⟩
  · go_enter Tryz.func5, Tryz.ntmps5
    go_wp2_with (first | (go_at_call 21; refine (HC.out _).mono ?_; rintro e w1 ⟨rfl, hb⟩; replace BX := keepB BX hb; replace HB := thenH HB hb; clear hb HC; dsimp only; obtain ⟨c0, c1, c2, c3, c4, c5, c6, c7, c8, c9, c10, c11, c12, c13, c14, c15⟩ := cells16 BX; clear BX) | ((with_reducible refine wpList_load_if rfl 23 _ rfl w.heap.size rfl 23 _ (0, 0) _ BX Tryz.underlying23 rfl (infoK _ rfl) ?_); simp only [Act.put, List.setIfInBounds_toArray, List.set_cons_succ, List.set_cons_zero]) | (go_at_call 22; refine (in_c _ _ _ _).mono ?_; rintro e w' ⟨rfl, rfl⟩; dsimp only) | (go_at_call 24; refine (step_c _ _ _ _ (by decide) _).mono ?_; rintro e w' ⟨rfl, rfl⟩; dsimp only) | (go_at_call 23; refine (refMask_c _ _ _ _).mono ?_; rintro e w' ⟨rfl, rfl⟩; dsimp only) | (go_at_call 25; refine (rsys_c _ _).mono ?_; rintro e w' ⟨rfl, hb⟩; replace HB : Hid (Below w.heap.size w w') := HB.out.trans (hb.mono HB.out.size); clear hb; dsimp only))
    all_goals (go_ret; refine ⟨ret_bool ?_, HB.out⟩; rw [hR.out]; first | rfl | (clear c0 c1 c2 c3 c4 c5 c6 c7 c8 c9 c10 c11 c12 c13 c14 c15 HB hR; first | (simp [*]; done) | (simp [*]; intros; rfl)))
set_option maxRecDepth 4000 in
set_option maxHeartbeats 4000000 in
theorem rr24 (S D N M A I J U F C Y : Int) (G X O L : Bool) (w : World) :
    Calls Tryz.prog 5 #[(⟨24, S, D, N, M, A, I, J, U, F, C, Y, G, X, O, L⟩ : Ins).val] w fun e w' => e = .returned (.bool (rightR ⟨24, S, D, N, M, A, I, J, U, F, C, Y, G, X, O, L⟩)) ∧ Below w.heap.size w w' := by
  have BX := heap_alloc_new w (.cells #[vI 24, vI S, vI D, vI N, vI M, vI A, vI I, vI J, vI U, vI F, vI C, vI Y, .bool G, .bool X, .bool O, .bool L] 23)
  have HB := below_alloc w (.cells #[vI 24, vI S, vI D, vI N, vI M, vI A, vI I, vI J, vI U, vI F, vI C, vI Y, .bool G, .bool X, .bool O, .bool L] 23)
  have hR : Hid (rightR ⟨24, S, D, N, M, A, I, J, U, F, C, Y, G, X, O, L⟩ = (clearB ⟨24, S, D, N, M, A, I, J, U, F, C, Y, G, X, O, L⟩ && (inB S 0 1))) := rfl
  have HC := rclear_c 24 S D N M A I J U F C Y G X O L
  replace HC := show Hid _ from HC
  generalize rightR ⟨24, S, D, N, M, A, I, J, U, F, C, Y, G, X, O, L⟩ = R at hR ⊢
  generalize clearB ⟨24, S, D, N, M, A, I, J, U, F, C, Y, G, X, O, L⟩ = cl at hR HC
  cases cl
  · go_enter Tryz.func5, Tryz.ntmps5
    go_wp2_with (first | (go_at_call 21; refine (HC.out _).mono ?_; rintro e w1 ⟨rfl, hb⟩; replace BX := keepB BX hb; replace HB := thenH HB hb; clear hb HC; dsimp only; obtain ⟨c0, c1, c2, c3, c4, c5, c6, c7, c8, c9, c10, c11, c12, c13, c14, c15⟩ := cells16 BX; clear BX) | ((with_reducible refine wpList_load_if rfl 23 _ rfl w.heap.size rfl 23 _ (0, 0) _ BX Tryz.underlying23 rfl (infoK _ rfl) ?_); simp only [Act.put, List.setIfInBounds_toArray, List.set_cons_succ, List.set_cons_zero]))
    go_ret
    exact ⟨ret_bool (by rw [hR.out]; rfl), HB.out⟩
  · go_enter Tryz.func5, Tryz.ntmps5
    go_wp2_with (first | (go_at_call 21; refine (HC.out _).mono ?_; rintro e w1 ⟨rfl, hb⟩; replace BX := keepB BX hb; replace HB := thenH HB hb; clear hb HC; dsimp only; obtain ⟨c0, c1, c2, c3, c4, c5, c6, c7, c8, c9, c10, c11, c12, c13, c14, c15⟩ := cells16 BX; clear BX) | ((with_reducible refine wpList_load_if rfl 23 _ rfl w.heap.size rfl 23 _ (0, 0) _ BX Tryz.underlying23 rfl (infoK _ rfl) ?_); simp only [Act.put, List.setIfInBounds_toArray, List.set_cons_succ, List.set_cons_zero]) | (go_at_call 22; refine (in_c _ _ _ _).mono ?_; rintro e w' ⟨rfl, rfl⟩; dsimp only) | (go_at_call 24; refine (step_c _ _ _ _ (by decide) _).mono ?_; rintro e w' ⟨rfl, rfl⟩; dsimp only) | (go_at_call 23; refine (refMask_c _ _ _ _).mono ?_; rintro e w' ⟨rfl, rfl⟩; dsimp only) | (go_at_call 25; refine (rsys_c _ _).mono ?_; rintro e w' ⟨rfl, hb⟩; replace HB : Hid (Below w.heap.size w w') := HB.out.trans (hb.mono HB.out.size); clear hb; dsimp only))
    all_goals (go_ret; refine ⟨ret_bool ?_, HB.out⟩; rw [hR.out]; first | rfl | (clear c0 c1 c2 c3 c4 c5 c6 c7 c8 c9 c10 c11 c12 c13 c14 c15 HB hR; first | (simp [*]; done) | (simp [*]; intros; rfl)))
set_option maxRecDepth 4000 in
set_option maxHeartbeats 4000000 in
theorem rr25 (S D N M A I J U F C Y : Int) (G X O L : Bool) (w : World) :
    Calls Tryz.prog 5 #[(⟨25, S, D, N, M, A, I, J, U, F, C, Y, G, X, O, L⟩ : Ins).val] w fun e w' => e = .returned (.bool (rightR ⟨25, S, D, N, M, A, I, J, U, F, C, Y, G, X, O, L⟩)) ∧ Below w.heap.size w w' := by
  have BX := heap_alloc_new w (.cells #[vI 25, vI S, vI D, vI N, vI M, vI A, vI I, vI J, vI U, vI F, vI C, vI Y, .bool G, .bool X, .bool O, .bool L] 23)
  have HB := below_alloc w (.cells #[vI 25, vI S, vI D, vI N, vI M, vI A, vI I, vI J, vI U, vI F, vI C, vI Y, .bool G, .bool X, .bool O, .bool L] 23)
  have hR : Hid (rightR ⟨25, S, D, N, M, A, I, J, U, F, C, Y, G, X, O, L⟩ = (clearB ⟨25, S, D, N, M, A, I, J, U, F, C, Y, G, X, O, L⟩ && (true))) := rfl
  have HC := rclear_c 25 S D N M A I J U F C Y G X O L
  replace HC := show Hid _ from HC
  generalize rightR ⟨25, S, D, N, M, A, I, J, U, F, C, Y, G, X, O, L⟩ = R at hR ⊢
  generalize clearB ⟨25, S, D, N, M, A, I, J, U, F, C, Y, G, X, O, L⟩ = cl at hR HC
  cases cl
  · go_enter Tryz.func5, Tryz.ntmps5
    go_wp2_with (first | (go_at_call 21; refine (HC.out _).mono ?_; rintro e w1 ⟨rfl, hb⟩; replace BX := keepB BX hb; replace HB := thenH HB hb; clear hb HC; dsimp only; obtain ⟨c0, c1, c2, c3, c4, c5, c6, c7, c8, c9, c10, c11, c12, c13, c14, c15⟩ := cells16 BX; clear BX) | ((with_reducible refine wpList_load_if rfl 23 _ rfl w.heap.size rfl 23 _ (0, 0) _ BX Tryz.underlying23 rfl (infoK _ rfl) ?_); simp only [Act.put, List.setIfInBounds_toArray, List.set_cons_succ, List.set_cons_zero]))
    go_ret
    exact ⟨ret_bool (by rw [hR.out]; rfl), HB.out⟩
  · go_enter Tryz.func5, Tryz.ntmps5
    go_wp2_with (first | (go_at_call 21; refine (HC.out _).mono ?_; rintro e w1 ⟨rfl, hb⟩; replace BX := keepB BX hb; replace HB := thenH HB hb; clear hb HC; dsimp only; obtain ⟨c0, c1, c2, c3, c4, c5, c6, c7, c8, c9, c10, c11, c12, c13, c14, c15⟩ := cells16 BX; clear BX) | ((with_reducible refine wpList_load_if rfl 23 _ rfl w.heap.size rfl 23 _ (0, 0) _ BX Tryz.underlying23 rfl (infoK _ rfl) ?_); simp only [Act.put, List.setIfInBounds_toArray, List.set_cons_succ, List.set_cons_zero]) | (go_at_call 22; refine (in_c _ _ _ _).mono ?_; rintro e w' ⟨rfl, rfl⟩; dsimp only) | (go_at_call 24; refine (step_c _ _ _ _ (by decide) _).mono ?_; rintro e w' ⟨rfl, rfl⟩; dsimp only) | (go_at_call 23; refine (refMask_c _ _ _ _).mono ?_; rintro e w' ⟨rfl, rfl⟩; dsimp only) | (go_at_call 25; refine (rsys_c _ _).mono ?_; rintro e w' ⟨rfl, hb⟩; replace HB : Hid (Below w.heap.size w w') := HB.out.trans (hb.mono HB.out.size); clear hb; dsimp only))
    all_goals (go_ret; refine ⟨ret_bool ?_, HB.out⟩; rw [hR.out]; first | rfl | (clear c0 c1 c2 c3 c4 c5 c6 c7 c8 c9 c10 c11 c12 c13 c14 c15 HB hR; first | (simp [*]; done) | (simp [*]; intros; rfl)))
set_option maxRecDepth 4000 in
set_option maxHeartbeats 4000000 in
theorem rr26 (S D N M A I J U F C Y : Int) (G X O L : Bool) (w : World) :
    Calls Tryz.prog 5 #[(⟨26, S, D, N, M, A, I, J, U, F, C, Y, G, X, O, L⟩ : Ins).val] w fun e w' => e = .returned (.bool (rightR ⟨26, S, D, N, M, A, I, J, U, F, C, Y, G, X, O, L⟩)) ∧ Below w.heap.size w w' := by
  have BX := heap_alloc_new w (.cells #[vI 26, vI S, vI D, vI N, vI M, vI A, vI I, vI J, vI U, vI F, vI C, vI Y, .bool G, .bool X, .bool O, .bool L] 23)
  have HB := below_alloc w (.cells #[vI 26, vI S, vI D, vI N, vI M, vI A, vI I, vI J, vI U, vI F, vI C, vI Y, .bool G, .bool X, .bool O, .bool L] 23)
  have hR : Hid (rightR ⟨26, S, D, N, M, A, I, J, U, F, C, Y, G, X, O, L⟩ = (clearB ⟨26, S, D, N, M, A, I, J, U, F, C, Y, G, X, O, L⟩ && (inB S 0 1 && inB I 1 3))) := rfl
  have HC := rclear_c 26 S D N M A I J U F C Y G X O L
  replace HC := show Hid _ from HC
  generalize rightR ⟨26, S, D, N, M, A, I, J, U, F, C, Y, G, X, O, L⟩ = R at hR ⊢
  generalize clearB ⟨26, S, D, N, M, A, I, J, U, F, C, Y, G, X, O, L⟩ = cl at hR HC
  cases cl
  · go_enter Tryz.func5, Tryz.ntmps5
    go_wp2_with (first | (go_at_call 21; refine (HC.out _).mono ?_; rintro e w1 ⟨rfl, hb⟩; replace BX := keepB BX hb; replace HB := thenH HB hb; clear hb HC; dsimp only; obtain ⟨c0, c1, c2, c3, c4, c5, c6, c7, c8, c9, c10, c11, c12, c13, c14, c15⟩ := cells16 BX; clear BX) | ((with_reducible refine wpList_load_if rfl 23 _ rfl w.heap.size rfl 23 _ (0, 0) _ BX Tryz.underlying23 rfl (infoK _ rfl) ?_); simp only [Act.put, List.setIfInBounds_toArray, List.set_cons_succ, List.set_cons_zero]))
    go_ret
    exact ⟨ret_bool (by rw [hR.out]; rfl), HB.out⟩
  · go_enter Tryz.func5, Tryz.ntmps5
    go_wp2_with (first | (go_at_call 21; refine (HC.out _).mono ?_; rintro e w1 ⟨rfl, hb⟩; replace BX := keepB BX hb; replace HB := thenH HB hb; clear hb HC; dsimp only; obtain ⟨c0, c1, c2, c3, c4, c5, c6, c7, c8, c9, c10, c11, c12, c13, c14, c15⟩ := cells16 BX; clear BX) | ((with_reducible refine wpList_load_if rfl 23 _ rfl w.heap.size rfl 23 _ (0, 0) _ BX Tryz.underlying23 rfl (infoK _ rfl) ?_); simp only [Act.put, List.setIfInBounds_toArray, List.set_cons_succ, List.set_cons_zero]) | (go_at_call 22; refine (in_c _ _ _ _).mono ?_; rintro e w' ⟨rfl, rfl⟩; dsimp only) | (go_at_call 24; refine (step_c _ _ _ _ (by decide) _).mono ?_; rintro e w' ⟨rfl, rfl⟩; dsimp only) | (go_at_call 23; refine (refMask_c _ _ _ _).mono ?_; rintro e w' ⟨rfl, rfl⟩; dsimp only) | (go_at_call 25; refine (rsys_c _ _).mono ?_; rintro e w' ⟨rfl, hb⟩; replace HB : Hid (Below w.heap.size w w') := HB.out.trans (hb.mono HB.out.size); clear hb; dsimp only))
    all_goals (go_ret; refine ⟨ret_bool ?_, HB.out⟩; rw [hR.out]; first | rfl | (clear c0 c1 c2 c3 c4 c5 c6 c7 c8 c9 c10 c11 c12 c13 c14 c15 HB hR; first | (simp [*]; done) | (simp [*]; intros; rfl)))
set_option maxRecDepth 4000 in
set_option maxHeartbeats 4000000 in
theorem rr27 (S D N M A I J U F C Y : Int) (G X O L : Bool) (w : World) :
    Calls Tryz.prog 5 #[(⟨27, S, D, N, M, A, I, J, U, F, C, Y, G, X, O, L⟩ : Ins).val] w fun e w' => e = .returned (.bool (rightR ⟨27, S, D, N, M, A, I, J, U, F, C, Y, G, X, O, L⟩)) ∧ Below w.heap.size w w' := by
  have BX := heap_alloc_new w (.cells #[vI 27, vI S, vI D, vI N, vI M, vI A, vI I, vI J, vI U, vI F, vI C, vI Y, .bool G, .bool X, .bool O, .bool L] 23)
  have HB := below_alloc w (.cells #[vI 27, vI S, vI D, vI N, vI M, vI A, vI I, vI J, vI U, vI F, vI C, vI Y, .bool G, .bool X, .bool O, .bool L] 23)
  have hR : Hid (rightR ⟨27, S, D, N, M, A, I, J, U, F, C, Y, G, X, O, L⟩ = (clearB ⟨27, S, D, N, M, A, I, J, U, F, C, Y, G, X, O, L⟩ && (true))) := rfl
  have HC := rclear_c 27 S D N M A I J U F C Y G X O L
  replace HC := show Hid _ from HC
  generalize rightR ⟨27, S, D, N, M, A, I, J, U, F, C, Y, G, X, O, L⟩ = R at hR ⊢
  generalize clearB ⟨27, S, D, N, M, A, I, J, U, F, C, Y, G, X, O, L⟩ = cl at hR HC
  cases cl
  · go_enter Tryz.func5, Tryz.ntmps5
    go_wp2_with (first | (go_at_call 21; refine (HC.out _).mono ?_; rintro e w1 ⟨rfl, hb⟩; replace BX := keepB BX hb; replace HB := thenH HB hb; clear hb HC; dsimp only; obtain ⟨c0, c1, c2, c3, c4, c5, c6, c7, c8, c9, c10, c11, c12, c13, c14, c15⟩ := cells16 BX; clear BX) | ((with_reducible refine wpList_load_if rfl 23 _ rfl w.heap.size rfl 23 _ (0, 0) _ BX Tryz.underlying23 rfl (infoK _ rfl) ?_); simp only [Act.put, List.setIfInBounds_toArray, List.set_cons_succ, List.set_cons_zero]))
    go_ret
    exact ⟨ret_bool (by rw [hR.out]; rfl), HB.out⟩
  · go_enter Tryz.func5, Tryz.ntmps5
    go_wp2_with (first | (go_at_call 21; refine (HC.out _).mono ?_; rintro e w1 ⟨rfl, hb⟩; replace BX := keepB BX hb; replace HB := thenH HB hb; clear hb HC; dsimp only; obtain ⟨c0, c1, c2, c3, c4, c5, c6, c7, c8, c9, c10, c11, c12, c13, c14, c15⟩ := cells16 BX; clear BX) | ((with_reducible refine wpList_load_if rfl 23 _ rfl w.heap.size rfl 23 _ (0, 0) _ BX Tryz.underlying23 rfl (infoK _ rfl) ?_); simp only [Act.put, List.setIfInBounds_toArray, List.set_cons_succ, List.set_cons_zero]) | (go_at_call 22; refine (in_c _ _ _ _).mono ?_; rintro e w' ⟨rfl, rfl⟩; dsimp only) | (go_at_call 24; refine (step_c _ _ _ _ (by decide) _).mono ?_; rintro e w' ⟨rfl, rfl⟩; dsimp only) | (go_at_call 23; refine (refMask_c _ _ _ _).mono ?_; rintro e w' ⟨rfl, rfl⟩; dsimp only) | (go_at_call 25; refine (rsys_c _ _).mono ?_; rintro e w' ⟨rfl, hb⟩; replace HB : Hid (Below w.heap.size w w') := HB.out.trans (hb.mono HB.out.size); clear hb; dsimp only))
    all_goals (go_ret; refine ⟨ret_bool ?_, HB.out⟩; rw [hR.out]; first | rfl | (clear c0 c1 c2 c3 c4 c5 c6 c7 c8 c9 c10 c11 c12 c13 c14 c15 HB hR; first | (simp [*]; done) | (simp [*]; intros; rfl)))
set_option maxRecDepth 4000 in
set_option maxHeartbeats 4000000 in
theorem rr28 (S D N M A I J U F C Y : Int) (G X O L : Bool) (w : World) :
    Calls Tryz.prog 5 #[(⟨28, S, D, N, M, A, I, J, U, F, C, Y, G, X, O, L⟩ : Ins).val] w fun e w' => e = .returned (.bool (rightR ⟨28, S, D, N, M, A, I, J, U, F, C, Y, G, X, O, L⟩)) ∧ Below w.heap.size w w' := by
  have BX := heap_alloc_new w (.cells #[vI 28, vI S, vI D, vI N, vI M, vI A, vI I, vI J, vI U, vI F, vI C, vI Y, .bool G, .bool X, .bool O, .bool L] 23)
  have HB := below_alloc w (.cells #[vI 28, vI S, vI D, vI N, vI M, vI A, vI I, vI J, vI U, vI F, vI C, vI Y, .bool G, .bool X, .bool O, .bool L] 23)
  have hR : Hid (rightR ⟨28, S, D, N, M, A, I, J, U, F, C, Y, G, X, O, L⟩ = (clearB ⟨28, S, D, N, M, A, I, J, U, F, C, Y, G, X, O, L⟩ && (true))) := rfl
  have HC := rclear_c 28 S D N M A I J U F C Y G X O L
  replace HC := show Hid _ from HC
  generalize rightR ⟨28, S, D, N, M, A, I, J, U, F, C, Y, G, X, O, L⟩ = R at hR ⊢
  generalize clearB ⟨28, S, D, N, M, A, I, J, U, F, C, Y, G, X, O, L⟩ = cl at hR HC
  cases cl
  · go_enter Tryz.func5, Tryz.ntmps5
    go_wp2_with (first | (go_at_call 21; refine (HC.out _).mono ?_; rintro e w1 ⟨rfl, hb⟩; replace BX := keepB BX hb; replace HB := thenH HB hb; clear hb HC; dsimp only; obtain ⟨c0, c1, c2, c3, c4, c5, c6, c7, c8, c9, c10, c11, c12, c13, c14, c15⟩ := cells16 BX; clear BX) | ((with_reducible refine wpList_load_if rfl 23 _ rfl w.heap.size rfl 23 _ (0, 0) _ BX Tryz.underlying23 rfl (infoK _ rfl) ?_); simp only [Act.put, List.setIfInBounds_toArray, List.set_cons_succ, List.set_cons_zero]))
    go_ret
    exact ⟨ret_bool (by rw [hR.out]; rfl), HB.out⟩
  · go_enter Tryz.func5, Tryz.ntmps5
    go_wp2_with (first | (go_at_call 21; refine (HC.out _).mono ?_; rintro e w1 ⟨rfl, hb⟩; replace BX := keepB BX hb; replace HB := thenH HB hb; clear hb HC; dsimp only; obtain ⟨c0, c1, c2, c3, c4, c5, c6, c7, c8, c9, c10, c11, c12, c13, c14, c15⟩ := cells16 BX; clear BX) | ((with_reducible refine wpList_load_if rfl 23 _ rfl w.heap.size rfl 23 _ (0, 0) _ BX Tryz.underlying23 rfl (infoK _ rfl) ?_); simp only [Act.put, List.setIfInBounds_toArray, List.set_cons_succ, List.set_cons_zero]) | (go_at_call 22; refine (in_c _ _ _ _).mono ?_; rintro e w' ⟨rfl, rfl⟩; dsimp only) | (go_at_call 24; refine (step_c _ _ _ _ (by decide) _).mono ?_; rintro e w' ⟨rfl, rfl⟩; dsimp only) | (go_at_call 23; refine (refMask_c _ _ _ _).mono ?_; rintro e w' ⟨rfl, rfl⟩; dsimp only) | (go_at_call 25; refine (rsys_c _ _).mono ?_; rintro e w' ⟨rfl, hb⟩; replace HB : Hid (Below w.heap.size w w') := HB.out.trans (hb.mono HB.out.size); clear hb; dsimp only))
    all_goals (go_ret; refine ⟨ret_bool ?_, HB.out⟩; rw [hR.out]; first | rfl | (clear c0 c1 c2 c3 c4 c5 c6 c7 c8 c9 c10 c11 c12 c13 c14 c15 HB hR; first | (simp [*]; done) | (simp [*]; intros; rfl)))
end Go.Proofs.YtjmdgfimmjodjaaGreatDoor
