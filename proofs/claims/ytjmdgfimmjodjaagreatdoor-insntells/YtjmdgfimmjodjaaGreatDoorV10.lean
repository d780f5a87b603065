/- Whether an instruction is right, as the document's own answer to chapter 2 tells it: contracts, an Op each. -/
import Derived.Test.YtjmdgfimmjodjaaGreatDoorV09
namespace Go.Proofs.YtjmdgfimmjodjaaGreatDoor
open Go.RowKit Go.Rel
set_option linter.unusedVariables false

set_option maxRecDepth 4000 in
set_option maxHeartbeats 4000000 in
theorem rr1 (S D N M A I J U F C Y : Int) (G X O L : Bool) (w : World) :
    Calls Tryz.prog 5 #[(⟨1, S, D, N, M, A, I, J, U, F, C, Y, G, X, O, L⟩ : Ins).val] w fun e w' => e = .returned (.bool (rightR ⟨1, S, D, N, M, A, I, J, U, F, C, Y, G, X, O, L⟩)) ∧ Below w.heap.size w w' := by
  have BX := heap_alloc_new w (.cells #[vI 1, vI S, vI D, vI N, vI M, vI A, vI I, vI J, vI U, vI F, vI C, vI Y, .bool G, .bool X, .bool O, .bool L] 23)
  have HB := below_alloc w (.cells #[vI 1, vI S, vI D, vI N, vI M, vI A, vI I, vI J, vI U, vI F, vI C, vI Y, .bool G, .bool X, .bool O, .bool L] 23)
  have hR : Hid (rightR ⟨1, S, D, N, M, A, I, J, U, F, C, Y, G, X, O, L⟩ = (clearB ⟨1, S, D, N, M, A, I, J, U, F, C, Y, G, X, O, L⟩ && (inB I 0 4095 && (U == 0 || U == 12)))) := rfl
  have HC := rclear_c 1 S D N M A I J U F C Y G X O L
  replace HC := show Hid _ from HC
  generalize rightR ⟨1, S, D, N, M, A, I, J, U, F, C, Y, G, X, O, L⟩ = R at hR ⊢
  generalize clearB ⟨1, S, D, N, M, A, I, J, U, F, C, Y, G, X, O, L⟩ = cl at hR HC
  cases cl
  · go_enter Tryz.func5, Tryz.ntmps5
    go_wp2_with (first | (go_at_call 21; refine (HC.out _).mono ?_; rintro e w1 ⟨rfl, hb⟩; replace BX := keepB BX hb; replace HB := thenH HB hb; clear hb HC; dsimp only; obtain ⟨c0, c1, c2, c3, c4, c5, c6, c7, c8, c9, c10, c11, c12, c13, c14, c15⟩ := cells16 BX; clear BX) | ((with_reducible refine wpList_load_if rfl 23 _ rfl w.heap.size rfl 23 _ (0, 0) _ BX Tryz.underlying23 rfl (infoK _ rfl) ?_); simp only [Act.put, List.setIfInBounds_toArray, List.set_cons_succ, List.set_cons_zero]))
    go_ret
    exact ⟨ret_bool (by rw [hR.out]; rfl), HB.out⟩
  · go_enter Tryz.func5, Tryz.ntmps5
    go_wp2_with (first | (go_at_call 21; refine (HC.out _).mono ?_; rintro e w1 ⟨rfl, hb⟩; replace BX := keepB BX hb; replace HB := thenH HB hb; clear hb HC; dsimp only; obtain ⟨c0, c1, c2, c3, c4, c5, c6, c7, c8, c9, c10, c11, c12, c13, c14, c15⟩ := cells16 BX; clear BX) | ((with_reducible refine wpList_load_if rfl 23 _ rfl w.heap.size rfl 23 _ (0, 0) _ BX Tryz.underlying23 rfl (infoK _ rfl) ?_); simp only [Act.put, List.setIfInBounds_toArray, List.set_cons_succ, List.set_cons_zero]) | (go_at_call 22; refine (in_c _ _ _ _).mono ?_; rintro e w' ⟨rfl, rfl⟩; dsimp only) | (go_at_call 24; refine (step_c _ _ _ _ (by decide) _).mono ?_; rintro e w' ⟨rfl, rfl⟩; dsimp only) | (go_at_call 23; refine (refMask_c _ _ _ _).mono ?_; rintro e w' ⟨rfl, rfl⟩; dsimp only) | (go_at_call 25; refine (rsys_c _ _).mono ?_; rintro e w' ⟨rfl, hb⟩; replace HB : Hid (Below w.heap.size w w') := HB.out.trans (hb.mono HB.out.size); clear hb; dsimp only))
    all_goals (go_ret; refine ⟨ret_bool ?_, HB.out⟩; rw [hR.out]; first | rfl | (clear c0 c1 c2 c3 c4 c5 c6 c7 c8 c9 c10 c11 c12 c13 c14 c15 HB hR; first | (simp [*]; done) | (simp [*]; intros; rfl)))
set_option maxRecDepth 4000 in
set_option maxHeartbeats 4000000 in
theorem rr2 (S D N M A I J U F C Y : Int) (G X O L : Bool) (w : World) :
    Calls Tryz.prog 5 #[(⟨2, S, D, N, M, A, I, J, U, F, C, Y, G, X, O, L⟩ : Ins).val] w fun e w' => e = .returned (.bool (rightR ⟨2, S, D, N, M, A, I, J, U, F, C, Y, G, X, O, L⟩)) ∧ Below w.heap.size w w' := by
  have BX := heap_alloc_new w (.cells #[vI 2, vI S, vI D, vI N, vI M, vI A, vI I, vI J, vI U, vI F, vI C, vI Y, .bool G, .bool X, .bool O, .bool L] 23)
  have HB := below_alloc w (.cells #[vI 2, vI S, vI D, vI N, vI M, vI A, vI I, vI J, vI U, vI F, vI C, vI Y, .bool G, .bool X, .bool O, .bool L] 23)
  have hR : Hid (rightR ⟨2, S, D, N, M, A, I, J, U, F, C, Y, G, X, O, L⟩ = (clearB ⟨2, S, D, N, M, A, I, J, U, F, C, Y, G, X, O, L⟩ && (inB F 0 2 && inB U 0 63))) := rfl
  have HC := rclear_c 2 S D N M A I J U F C Y G X O L
  replace HC := show Hid _ from HC
  generalize rightR ⟨2, S, D, N, M, A, I, J, U, F, C, Y, G, X, O, L⟩ = R at hR ⊢
  generalize clearB ⟨2, S, D, N, M, A, I, J, U, F, C, Y, G, X, O, L⟩ = cl at hR HC
  cases cl
  · go_enter Tryz.func5, Tryz.ntmps5
    go_wp2_with (first | (go_at_call 21; refine (HC.out _).mono ?_; rintro e w1 ⟨rfl, hb⟩; replace BX := keepB BX hb; replace HB := thenH HB hb; clear hb HC; dsimp only; obtain ⟨c0, c1, c2, c3, c4, c5, c6, c7, c8, c9, c10, c11, c12, c13, c14, c15⟩ := cells16 BX; clear BX) | ((with_reducible refine wpList_load_if rfl 23 _ rfl w.heap.size rfl 23 _ (0, 0) _ BX Tryz.underlying23 rfl (infoK _ rfl) ?_); simp only [Act.put, List.setIfInBounds_toArray, List.set_cons_succ, List.set_cons_zero]))
    go_ret
    exact ⟨ret_bool (by rw [hR.out]; rfl), HB.out⟩
  · go_enter Tryz.func5, Tryz.ntmps5
    go_wp2_with (first | (go_at_call 21; refine (HC.out _).mono ?_; rintro e w1 ⟨rfl, hb⟩; replace BX := keepB BX hb; replace HB := thenH HB hb; clear hb HC; dsimp only; obtain ⟨c0, c1, c2, c3, c4, c5, c6, c7, c8, c9, c10, c11, c12, c13, c14, c15⟩ := cells16 BX; clear BX) | ((with_reducible refine wpList_load_if rfl 23 _ rfl w.heap.size rfl 23 _ (0, 0) _ BX Tryz.underlying23 rfl (infoK _ rfl) ?_); simp only [Act.put, List.setIfInBounds_toArray, List.set_cons_succ, List.set_cons_zero]) | (go_at_call 22; refine (in_c _ _ _ _).mono ?_; rintro e w' ⟨rfl, rfl⟩; dsimp only) | (go_at_call 24; refine (step_c _ _ _ _ (by decide) _).mono ?_; rintro e w' ⟨rfl, rfl⟩; dsimp only) | (go_at_call 23; refine (refMask_c _ _ _ _).mono ?_; rintro e w' ⟨rfl, rfl⟩; dsimp only) | (go_at_call 25; refine (rsys_c _ _).mono ?_; rintro e w' ⟨rfl, hb⟩; replace HB : Hid (Below w.heap.size w w') := HB.out.trans (hb.mono HB.out.size); clear hb; dsimp only))
    all_goals (go_ret; refine ⟨ret_bool ?_, HB.out⟩; rw [hR.out]; first | rfl | (clear c0 c1 c2 c3 c4 c5 c6 c7 c8 c9 c10 c11 c12 c13 c14 c15 HB hR; first | (simp [*]; done) | (simp [*]; intros; rfl)))
set_option maxRecDepth 4000 in
set_option maxHeartbeats 4000000 in
theorem rr3 (S D N M A I J U F C Y : Int) (G X O L : Bool) (w : World) :
    Calls Tryz.prog 5 #[(⟨3, S, D, N, M, A, I, J, U, F, C, Y, G, X, O, L⟩ : Ins).val] w fun e w' => e = .returned (.bool (rightR ⟨3, S, D, N, M, A, I, J, U, F, C, Y, G, X, O, L⟩)) ∧ Below w.heap.size w w' := by
  have BX := heap_alloc_new w (.cells #[vI 3, vI S, vI D, vI N, vI M, vI A, vI I, vI J, vI U, vI F, vI C, vI Y, .bool G, .bool X, .bool O, .bool L] 23)
  have HB := below_alloc w (.cells #[vI 3, vI S, vI D, vI N, vI M, vI A, vI I, vI J, vI U, vI F, vI C, vI Y, .bool G, .bool X, .bool O, .bool L] 23)
  have hR : Hid (rightR ⟨3, S, D, N, M, A, I, J, U, F, C, Y, G, X, O, L⟩ = (clearB ⟨3, S, D, N, M, A, I, J, U, F, C, Y, G, X, O, L⟩ && (inB S 0 2 && (!G || S == 0) && inB F 0 3 && inB U 0 63))) := rfl
  have HC := rclear_c 3 S D N M A I J U F C Y G X O L
  replace HC := show Hid _ from HC
  generalize rightR ⟨3, S, D, N, M, A, I, J, U, F, C, Y, G, X, O, L⟩ = R at hR ⊢
  generalize clearB ⟨3, S, D, N, M, A, I, J, U, F, C, Y, G, X, O, L⟩ = cl at hR HC
  cases cl
  · go_enter Tryz.func5, Tryz.ntmps5
    go_wp2_with (first | (go_at_call 21; refine (HC.out _).mono ?_; rintro e w1 ⟨rfl, hb⟩; replace BX := keepB BX hb; replace HB := thenH HB hb; clear hb HC; dsimp only; obtain ⟨c0, c1, c2, c3, c4, c5, c6, c7, c8, c9, c10, c11, c12, c13, c14, c15⟩ := cells16 BX; clear BX) | ((with_reducible refine wpList_load_if rfl 23 _ rfl w.heap.size rfl 23 _ (0, 0) _ BX Tryz.underlying23 rfl (infoK _ rfl) ?_); simp only [Act.put, List.setIfInBounds_toArray, List.set_cons_succ, List.set_cons_zero]))
    go_ret
    exact ⟨ret_bool (by rw [hR.out]; rfl), HB.out⟩
  · go_enter Tryz.func5, Tryz.ntmps5
    go_wp2_with (first | (go_at_call 21; refine (HC.out _).mono ?_; rintro e w1 ⟨rfl, hb⟩; replace BX := keepB BX hb; replace HB := thenH HB hb; clear hb HC; dsimp only; obtain ⟨c0, c1, c2, c3, c4, c5, c6, c7, c8, c9, c10, c11, c12, c13, c14, c15⟩ := cells16 BX; clear BX) | ((with_reducible refine wpList_load_if rfl 23 _ rfl w.heap.size rfl 23 _ (0, 0) _ BX Tryz.underlying23 rfl (infoK _ rfl) ?_); simp only [Act.put, List.setIfInBounds_toArray, List.set_cons_succ, List.set_cons_zero]) | (go_at_call 22; refine (in_c _ _ _ _).mono ?_; rintro e w' ⟨rfl, rfl⟩; dsimp only) | (go_at_call 24; refine (step_c _ _ _ _ (by decide) _).mono ?_; rintro e w' ⟨rfl, rfl⟩; dsimp only) | (go_at_call 23; refine (refMask_c _ _ _ _).mono ?_; rintro e w' ⟨rfl, rfl⟩; dsimp only) | (go_at_call 25; refine (rsys_c _ _).mono ?_; rintro e w' ⟨rfl, hb⟩; replace HB : Hid (Below w.heap.size w w') := HB.out.trans (hb.mono HB.out.size); clear hb; dsimp only))
    all_goals (go_ret; refine ⟨ret_bool ?_, HB.out⟩; rw [hR.out]; first | rfl | (clear c0 c1 c2 c3 c4 c5 c6 c7 c8 c9 c10 c11 c12 c13 c14 c15 HB hR; first | (simp [*]; done) | (simp [*]; intros; rfl)))
set_option maxRecDepth 4000 in
set_option maxHeartbeats 4000000 in
theorem rr4 (S D N M A I J U F C Y : Int) (G X O L : Bool) (w : World) :
    Calls Tryz.prog 5 #[(⟨4, S, D, N, M, A, I, J, U, F, C, Y, G, X, O, L⟩ : Ins).val] w fun e w' => e = .returned (.bool (rightR ⟨4, S, D, N, M, A, I, J, U, F, C, Y, G, X, O, L⟩)) ∧ Below w.heap.size w w' := by
  have BX := heap_alloc_new w (.cells #[vI 4, vI S, vI D, vI N, vI M, vI A, vI I, vI J, vI U, vI F, vI C, vI Y, .bool G, .bool X, .bool O, .bool L] 23)
  have HB := below_alloc w (.cells #[vI 4, vI S, vI D, vI N, vI M, vI A, vI I, vI J, vI U, vI F, vI C, vI Y, .bool G, .bool X, .bool O, .bool L] 23)
  have hR : Hid (rightR ⟨4, S, D, N, M, A, I, J, U, F, C, Y, G, X, O, L⟩ = (clearB ⟨4, S, D, N, M, A, I, J, U, F, C, Y, G, X, O, L⟩ && (inB S 0 2 && (!G || S == 0) && maskE U I J == 0))) := rfl
  have HC := rclear_c 4 S D N M A I J U F C Y G X O L
  replace HC := show Hid _ from HC
  generalize rightR ⟨4, S, D, N, M, A, I, J, U, F, C, Y, G, X, O, L⟩ = R at hR ⊢
  generalize clearB ⟨4, S, D, N, M, A, I, J, U, F, C, Y, G, X, O, L⟩ = cl at hR HC
  cases cl
  · go_enter Tryz.func5, Tryz.ntmps5
    go_wp2_with (first | (go_at_call 21; refine (HC.out _).mono ?_; rintro e w1 ⟨rfl, hb⟩; replace BX := keepB BX hb; replace HB := thenH HB hb; clear hb HC; dsimp only; obtain ⟨c0, c1, c2, c3, c4, c5, c6, c7, c8, c9, c10, c11, c12, c13, c14, c15⟩ := cells16 BX; clear BX) | ((with_reducible refine wpList_load_if rfl 23 _ rfl w.heap.size rfl 23 _ (0, 0) _ BX Tryz.underlying23 rfl (infoK _ rfl) ?_); simp only [Act.put, List.setIfInBounds_toArray, List.set_cons_succ, List.set_cons_zero]))
    go_ret
    exact ⟨ret_bool (by rw [hR.out]; rfl), HB.out⟩
  · go_enter Tryz.func5, Tryz.ntmps5
    go_wp2_with (first | (go_at_call 21; refine (HC.out _).mono ?_; rintro e w1 ⟨rfl, hb⟩; replace BX := keepB BX hb; replace HB := thenH HB hb; clear hb HC; dsimp only; obtain ⟨c0, c1, c2, c3, c4, c5, c6, c7, c8, c9, c10, c11, c12, c13, c14, c15⟩ := cells16 BX; clear BX) | ((with_reducible refine wpList_load_if rfl 23 _ rfl w.heap.size rfl 23 _ (0, 0) _ BX Tryz.underlying23 rfl (infoK _ rfl) ?_); simp only [Act.put, List.setIfInBounds_toArray, List.set_cons_succ, List.set_cons_zero]) | (go_at_call 22; refine (in_c _ _ _ _).mono ?_; rintro e w' ⟨rfl, rfl⟩; dsimp only) | (go_at_call 24; refine (step_c _ _ _ _ (by decide) _).mono ?_; rintro e w' ⟨rfl, rfl⟩; dsimp only) | (go_at_call 23; refine (refMask_c _ _ _ _).mono ?_; rintro e w' ⟨rfl, rfl⟩; dsimp only) | (go_at_call 25; refine (rsys_c _ _).mono ?_; rintro e w' ⟨rfl, hb⟩; replace HB : Hid (Below w.heap.size w w') := HB.out.trans (hb.mono HB.out.size); clear hb; dsimp only))
    all_goals (go_ret; refine ⟨ret_bool ?_, HB.out⟩; rw [hR.out]; first | rfl | (clear c0 c1 c2 c3 c4 c5 c6 c7 c8 c9 c10 c11 c12 c13 c14 c15 HB hR; first | (simp [*]; done) | (simp [*]; intros; rfl)))
set_option maxRecDepth 4000 in
set_option maxHeartbeats 4000000 in
theorem rr5 (S D N M A I J U F C Y : Int) (G X O L : Bool) (w : World) :
    Calls Tryz.prog 5 #[(⟨5, S, D, N, M, A, I, J, U, F, C, Y, G, X, O, L⟩ : Ins).val] w fun e w' => e = .returned (.bool (rightR ⟨5, S, D, N, M, A, I, J, U, F, C, Y, G, X, O, L⟩)) ∧ Below w.heap.size w w' := by
  have BX := heap_alloc_new w (.cells #[vI 5, vI S, vI D, vI N, vI M, vI A, vI I, vI J, vI U, vI F, vI C, vI Y, .bool G, .bool X, .bool O, .bool L] 23)
  have HB := below_alloc w (.cells #[vI 5, vI S, vI D, vI N, vI M, vI A, vI I, vI J, vI U, vI F, vI C, vI Y, .bool G, .bool X, .bool O, .bool L] 23)
  have hR : Hid (rightR ⟨5, S, D, N, M, A, I, J, U, F, C, Y, G, X, O, L⟩ = (clearB ⟨5, S, D, N, M, A, I, J, U, F, C, Y, G, X, O, L⟩ && ((S == 0 || S == 2 || S == 3) && inB I 0 65535 && stepB U 16 0 48))) := rfl
  have HC := rclear_c 5 S D N M A I J U F C Y G X O L
  replace HC := show Hid _ from HC
  generalize rightR ⟨5, S, D, N, M, A, I, J, U, F, C, Y, G, X, O, L⟩ = R at hR ⊢
  generalize clearB ⟨5, S, D, N, M, A, I, J, U, F, C, Y, G, X, O, L⟩ = cl at hR HC
  cases cl
  · go_enter Tryz.func5, Tryz.ntmps5
    go_wp2_with (first | (go_at_call 21; refine (HC.out _).mono ?_; rintro e w1 ⟨rfl, hb⟩; replace BX := keepB BX hb; replace HB := thenH HB hb; clear hb HC; dsimp only; obtain ⟨c0, c1, c2, c3, c4, c5, c6, c7, c8, c9, c10, c11, c12, c13, c14, c15⟩ := cells16 BX; clear BX) | ((with_reducible refine wpList_load_if rfl 23 _ rfl w.heap.size rfl 23 _ (0, 0) _ BX Tryz.underlying23 rfl (infoK _ rfl) ?_); simp only [Act.put, List.setIfInBounds_toArray, List.set_cons_succ, List.set_cons_zero]))
    go_ret
    exact ⟨ret_bool (by rw [hR.out]; rfl), HB.out⟩
  · go_enter Tryz.func5, Tryz.ntmps5
    go_wp2_with (first | (go_at_call 21; refine (HC.out _).mono ?_; rintro e w1 ⟨rfl, hb⟩; replace BX := keepB BX hb; replace HB := thenH HB hb; clear hb HC; dsimp only; obtain ⟨c0, c1, c2, c3, c4, c5, c6, c7, c8, c9, c10, c11, c12, c13, c14, c15⟩ := cells16 BX; clear BX) | ((with_reducible refine wpList_load_if rfl 23 _ rfl w.heap.size rfl 23 _ (0, 0) _ BX Tryz.underlying23 rfl (infoK _ rfl) ?_); simp only [Act.put, List.setIfInBounds_toArray, List.set_cons_succ, List.set_cons_zero]) | (go_at_call 22; refine (in_c _ _ _ _).mono ?_; rintro e w' ⟨rfl, rfl⟩; dsimp only) | (go_at_call 24; refine (step_c _ _ _ _ (by decide) _).mono ?_; rintro e w' ⟨rfl, rfl⟩; dsimp only) | (go_at_call 23; refine (refMask_c _ _ _ _).mono ?_; rintro e w' ⟨rfl, rfl⟩; dsimp only) | (go_at_call 25; refine (rsys_c _ _).mono ?_; rintro e w' ⟨rfl, hb⟩; replace HB : Hid (Below w.heap.size w w') := HB.out.trans (hb.mono HB.out.size); clear hb; dsimp only))
    all_goals (go_ret; refine ⟨ret_bool ?_, HB.out⟩; rw [hR.out]; first | rfl | (clear c0 c1 c2 c3 c4 c5 c6 c7 c8 c9 c10 c11 c12 c13 c14 c15 HB hR; first | (simp [*]; done) | (simp [*]; intros; rfl)))
set_option maxRecDepth 4000 in
set_option maxHeartbeats 4000000 in
theorem rr6 (S D N M A I J U F C Y : Int) (G X O L : Bool) (w : World) :
    Calls Tryz.prog 5 #[(⟨6, S, D, N, M, A, I, J, U, F, C, Y, G, X, O, L⟩ : Ins).val] w fun e w' => e = .returned (.bool (rightR ⟨6, S, D, N, M, A, I, J, U, F, C, Y, G, X, O, L⟩)) ∧ Below w.heap.size w w' := by
  have BX := heap_alloc_new w (.cells #[vI 6, vI S, vI D, vI N, vI M, vI A, vI I, vI J, vI U, vI F, vI C, vI Y, .bool G, .bool X, .bool O, .bool L] 23)
  have HB := below_alloc w (.cells #[vI 6, vI S, vI D, vI N, vI M, vI A, vI I, vI J, vI U, vI F, vI C, vI Y, .bool G, .bool X, .bool O, .bool L] 23)
  have hR : Hid (rightR ⟨6, S, D, N, M, A, I, J, U, F, C, Y, G, X, O, L⟩ = (clearB ⟨6, S, D, N, M, A, I, J, U, F, C, Y, G, X, O, L⟩ && ((S == 0 || S == 2) && inB I 0 63 && inB J 0 63))) := rfl
  have HC := rclear_c 6 S D N M A I J U F C Y G X O L
  replace HC := show Hid _ from HC
  generalize rightR ⟨6, S, D, N, M, A, I, J, U, F, C, Y, G, X, O, L⟩ = R at hR ⊢
  generalize clearB ⟨6, S, D, N, M, A, I, J, U, F, C, Y, G, X, O, L⟩ = cl at hR HC
  cases cl
  · go_enter Tryz.func5, Tryz.ntmps5
    go_wp2_with (first | (go_at_call 21; refine (HC.out _).mono ?_; rintro e w1 ⟨rfl, hb⟩; replace BX := keepB BX hb; replace HB := thenH HB hb; clear hb HC; dsimp only; obtain ⟨c0, c1, c2, c3, c4, c5, c6, c7, c8, c9, c10, c11, c12, c13, c14, c15⟩ := cells16 BX; clear BX) | ((with_reducible refine wpList_load_if rfl 23 _ rfl w.heap.size rfl 23 _ (0, 0) _ BX Tryz.underlying23 rfl (infoK _ rfl) ?_); simp only [Act.put, List.setIfInBounds_toArray, List.set_cons_succ, List.set_cons_zero]))
    go_ret
    exact ⟨ret_bool (by rw [hR.out]; rfl), HB.out⟩
  · go_enter Tryz.func5, Tryz.ntmps5
    go_wp2_with (first | (go_at_call 21; refine (HC.out _).mono ?_; rintro e w1 ⟨rfl, hb⟩; replace BX := keepB BX hb; replace HB := thenH HB hb; clear hb HC; dsimp only; obtain ⟨c0, c1, c2, c3, c4, c5, c6, c7, c8, c9, c10, c11, c12, c13, c14, c15⟩ := cells16 BX; clear BX) | ((with_reducible refine wpList_load_if rfl 23 _ rfl w.heap.size rfl 23 _ (0, 0) _ BX Tryz.underlying23 rfl (infoK _ rfl) ?_); simp only [Act.put, List.setIfInBounds_toArray, List.set_cons_succ, List.set_cons_zero]) | (go_at_call 22; refine (in_c _ _ _ _).mono ?_; rintro e w' ⟨rfl, rfl⟩; dsimp only) | (go_at_call 24; refine (step_c _ _ _ _ (by decide) _).mono ?_; rintro e w' ⟨rfl, rfl⟩; dsimp only) | (go_at_call 23; refine (refMask_c _ _ _ _).mono ?_; rintro e w' ⟨rfl, rfl⟩; dsimp only) | (go_at_call 25; refine (rsys_c _ _).mono ?_; rintro e w' ⟨rfl, hb⟩; replace HB : Hid (Below w.heap.size w w') := HB.out.trans (hb.mono HB.out.size); clear hb; dsimp only))
    all_goals (go_ret; refine ⟨ret_bool ?_, HB.out⟩; rw [hR.out]; first | rfl | (clear c0 c1 c2 c3 c4 c5 c6 c7 c8 c9 c10 c11 c12 c13 c14 c15 HB hR; first | (simp [*]; done) | (simp [*]; intros; rfl)))
set_option maxRecDepth 4000 in
set_option maxHeartbeats 4000000 in
theorem rr7 (S D N M A I J U F C Y : Int) (G X O L : Bool) (w : World) :
    Calls Tryz.prog 5 #[(⟨7, S, D, N, M, A, I, J, U, F, C, Y, G, X, O, L⟩ : Ins).val] w fun e w' => e = .returned (.bool (rightR ⟨7, S, D, N, M, A, I, J, U, F, C, Y, G, X, O, L⟩)) ∧ Below w.heap.size w w' := by
  have BX := heap_alloc_new w (.cells #[vI 7, vI S, vI D, vI N, vI M, vI A, vI I, vI J, vI U, vI F, vI C, vI Y, .bool G, .bool X, .bool O, .bool L] 23)
  have HB := below_alloc w (.cells #[vI 7, vI S, vI D, vI N, vI M, vI A, vI I, vI J, vI U, vI F, vI C, vI Y, .bool G, .bool X, .bool O, .bool L] 23)
  have hR : Hid (rightR ⟨7, S, D, N, M, A, I, J, U, F, C, Y, G, X, O, L⟩ = (clearB ⟨7, S, D, N, M, A, I, J, U, F, C, Y, G, X, O, L⟩ && (inB S 0 3))) := rfl
  have HC := rclear_c 7 S D N M A I J U F C Y G X O L
  replace HC := show Hid _ from HC
  generalize rightR ⟨7, S, D, N, M, A, I, J, U, F, C, Y, G, X, O, L⟩ = R at hR ⊢
  generalize clearB ⟨7, S, D, N, M, A, I, J, U, F, C, Y, G, X, O, L⟩ = cl at hR HC
  cases cl
  · go_enter Tryz.func5, Tryz.ntmps5
    go_wp2_with (first | (go_at_call 21; refine (HC.out _).mono ?_; rintro e w1 ⟨rfl, hb⟩; replace BX := keepB BX hb; replace HB := thenH HB hb; clear hb HC; dsimp only; obtain ⟨c0, c1, c2, c3, c4, c5, c6, c7, c8, c9, c10, c11, c12, c13, c14, c15⟩ := cells16 BX; clear BX) | ((with_reducible refine wpList_load_if rfl 23 _ rfl w.heap.size rfl 23 _ (0, 0) _ BX Tryz.underlying23 rfl (infoK _ rfl) ?_); simp only [Act.put, List.setIfInBounds_toArray, List.set_cons_succ, List.set_cons_zero]))
    go_ret
    exact ⟨ret_bool (by rw [hR.out]; rfl), HB.out⟩
  · go_enter Tryz.func5, Tryz.ntmps5
    go_wp2_with (first | (go_at_call 21; refine (HC.out _).mono ?_; rintro e w1 ⟨rfl, hb⟩; replace BX := keepB BX hb; replace HB := thenH HB hb; clear hb HC; dsimp only; obtain ⟨c0, c1, c2, c3, c4, c5, c6, c7, c8, c9, c10, c11, c12, c13, c14, c15⟩ := cells16 BX; clear BX) | ((with_reducible refine wpList_load_if rfl 23 _ rfl w.heap.size rfl 23 _ (0, 0) _ BX Tryz.underlying23 rfl (infoK _ rfl) ?_); simp only [Act.put, List.setIfInBounds_toArray, List.set_cons_succ, List.set_cons_zero]) | (go_at_call 22; refine (in_c _ _ _ _).mono ?_; rintro e w' ⟨rfl, rfl⟩; dsimp only) | (go_at_call 24; refine (step_c _ _ _ _ (by decide) _).mono ?_; rintro e w' ⟨rfl, rfl⟩; dsimp only) | (go_at_call 23; refine (refMask_c _ _ _ _).mono ?_; rintro e w' ⟨rfl, rfl⟩; dsimp only) | (go_at_call 25; refine (rsys_c _ _).mono ?_; rintro e w' ⟨rfl, hb⟩; replace HB : Hid (Below w.heap.size w w') := HB.out.trans (hb.mono HB.out.size); clear hb; dsimp only))
    all_goals (go_ret; refine ⟨ret_bool ?_, HB.out⟩; rw [hR.out]; first | rfl | (clear c0 c1 c2 c3 c4 c5 c6 c7 c8 c9 c10 c11 c12 c13 c14 c15 HB hR; first | (simp [*]; done) | (simp [*]; intros; rfl)))
set_option maxRecDepth 4000 in
set_option maxHeartbeats 4000000 in
theorem rr8 (S D N M A I J U F C Y : Int) (G X O L : Bool) (w : World) :
    Calls Tryz.prog 5 #[(⟨8, S, D, N, M, A, I, J, U, F, C, Y, G, X, O, L⟩ : Ins).val] w fun e w' => e = .returned (.bool (rightR ⟨8, S, D, N, M, A, I, J, U, F, C, Y, G, X, O, L⟩)) ∧ Below w.heap.size w w' := by
  have BX := heap_alloc_new w (.cells #[vI 8, vI S, vI D, vI N, vI M, vI A, vI I, vI J, vI U, vI F, vI C, vI Y, .bool G, .bool X, .bool O, .bool L] 23)
  have HB := below_alloc w (.cells #[vI 8, vI S, vI D, vI N, vI M, vI A, vI I, vI J, vI U, vI F, vI C, vI Y, .bool G, .bool X, .bool O, .bool L] 23)
  have hR : Hid (rightR ⟨8, S, D, N, M, A, I, J, U, F, C, Y, G, X, O, L⟩ = (clearB ⟨8, S, D, N, M, A, I, J, U, F, C, Y, G, X, O, L⟩ && (true))) := rfl
  have HC := rclear_c 8 S D N M A I J U F C Y G X O L
  replace HC := show Hid _ from HC
  generalize rightR ⟨8, S, D, N, M, A, I, J, U, F, C, Y, G, X, O, L⟩ = R at hR ⊢
  generalize clearB ⟨8, S, D, N, M, A, I, J, U, F, C, Y, G, X, O, L⟩ = cl at hR HC
  cases cl
  · go_enter Tryz.func5, Tryz.ntmps5
    go_wp2_with (first | (go_at_call 21; refine (HC.out _).mono ?_; rintro e w1 ⟨rfl, hb⟩; replace BX := keepB BX hb; replace HB := thenH HB hb; clear hb HC; dsimp only; obtain ⟨c0, c1, c2, c3, c4, c5, c6, c7, c8, c9, c10, c11, c12, c13, c14, c15⟩ := cells16 BX; clear BX) | ((with_reducible refine wpList_load_if rfl 23 _ rfl w.heap.size rfl 23 _ (0, 0) _ BX Tryz.underlying23 rfl (infoK _ rfl) ?_); simp only [Act.put, List.setIfInBounds_toArray, List.set_cons_succ, List.set_cons_zero]))
    go_ret
    exact ⟨ret_bool (by rw [hR.out]; rfl), HB.out⟩
  · go_enter Tryz.func5, Tryz.ntmps5
    go_wp2_with (first | (go_at_call 21; refine (HC.out _).mono ?_; rintro e w1 ⟨rfl, hb⟩; replace BX := keepB BX hb; replace HB := thenH HB hb; clear hb HC; dsimp only; obtain ⟨c0, c1, c2, c3, c4, c5, c6, c7, c8, c9, c10, c11, c12, c13, c14, c15⟩ := cells16 BX; clear BX) | ((with_reducible refine wpList_load_if rfl 23 _ rfl w.heap.size rfl 23 _ (0, 0) _ BX Tryz.underlying23 rfl (infoK _ rfl) ?_); simp only [Act.put, List.setIfInBounds_toArray, List.set_cons_succ, List.set_cons_zero]) | (go_at_call 22; refine (in_c _ _ _ _).mono ?_; rintro e w' ⟨rfl, rfl⟩; dsimp only) | (go_at_call 24; refine (step_c _ _ _ _ (by decide) _).mono ?_; rintro e w' ⟨rfl, rfl⟩; dsimp only) | (go_at_call 23; refine (refMask_c _ _ _ _).mono ?_; rintro e w' ⟨rfl, rfl⟩; dsimp only) | (go_at_call 25; refine (rsys_c _ _).mono ?_; rintro e w' ⟨rfl, hb⟩; replace HB : Hid (Below w.heap.size w w') := HB.out.trans (hb.mono HB.out.size); clear hb; dsimp only))
    all_goals (go_ret; refine ⟨ret_bool ?_, HB.out⟩; rw [hR.out]; first | rfl | (clear c0 c1 c2 c3 c4 c5 c6 c7 c8 c9 c10 c11 c12 c13 c14 c15 HB hR; first | (simp [*]; done) | (simp [*]; intros; rfl)))
set_option maxRecDepth 4000 in
set_option maxHeartbeats 4000000 in
theorem rr9 (S D N M A I J U F C Y : Int) (G X O L : Bool) (w : World) :
    Calls Tryz.prog 5 #[(⟨9, S, D, N, M, A, I, J, U, F, C, Y, G, X, O, L⟩ : Ins).val] w fun e w' => e = .returned (.bool (rightR ⟨9, S, D, N, M, A, I, J, U, F, C, Y, G, X, O, L⟩)) ∧ Below w.heap.size w w' := by
  have BX := heap_alloc_new w (.cells #[vI 9, vI S, vI D, vI N, vI M, vI A, vI I, vI J, vI U, vI F, vI C, vI Y, .bool G, .bool X, .bool O, .bool L] 23)
  have HB := below_alloc w (.cells #[vI 9, vI S, vI D, vI N, vI M, vI A, vI I, vI J, vI U, vI F, vI C, vI Y, .bool G, .bool X, .bool O, .bool L] 23)
  have hR : Hid (rightR ⟨9, S, D, N, M, A, I, J, U, F, C, Y, G, X, O, L⟩ = (clearB ⟨9, S, D, N, M, A, I, J, U, F, C, Y, G, X, O, L⟩ && (inB S 0 1))) := rfl
  have HC := rclear_c 9 S D N M A I J U F C Y G X O L
  replace HC := show Hid _ from HC
  generalize rightR ⟨9, S, D, N, M, A, I, J, U, F, C, Y, G, X, O, L⟩ = R at hR ⊢
  generalize clearB ⟨9, S, D, N, M, A, I, J, U, F, C, Y, G, X, O, L⟩ = cl at hR HC
  cases cl
  · go_enter Tryz.func5, Tryz.ntmps5
    go_wp2_with (first | (go_at_call 21; refine (HC.out _).mono ?_; rintro e w1 ⟨rfl, hb⟩; replace BX := keepB BX hb; replace HB := thenH HB hb; clear hb HC; dsimp only; obtain ⟨c0, c1, c2, c3, c4, c5, c6, c7, c8, c9, c10, c11, c12, c13, c14, c15⟩ := cells16 BX; clear BX) | ((with_reducible refine wpList_load_if rfl 23 _ rfl w.heap.size rfl 23 _ (0, 0) _ BX Tryz.underlying23 rfl (infoK _ rfl) ?_); simp only [Act.put, List.setIfInBounds_toArray, List.set_cons_succ, List.set_cons_zero]))
    go_ret
    exact ⟨ret_bool (by rw [hR.out]; rfl), HB.out⟩
  · go_enter Tryz.func5, Tryz.ntmps5
    go_wp2_with (first | (go_at_call 21; refine (HC.out _).mono ?_; rintro e w1 ⟨rfl, hb⟩; replace BX := keepB BX hb; replace HB := thenH HB hb; clear hb HC; dsimp only; obtain ⟨c0, c1, c2, c3, c4, c5, c6, c7, c8, c9, c10, c11, c12, c13, c14, c15⟩ := cells16 BX; clear BX) | ((with_reducible refine wpList_load_if rfl 23 _ rfl w.heap.size rfl 23 _ (0, 0) _ BX Tryz.underlying23 rfl (infoK _ rfl) ?_); simp only [Act.put, List.setIfInBounds_toArray, List.set_cons_succ, List.set_cons_zero]) | (go_at_call 22; refine (in_c _ _ _ _).mono ?_; rintro e w' ⟨rfl, rfl⟩; dsimp only) | (go_at_call 24; refine (step_c _ _ _ _ (by decide) _).mono ?_; rintro e w' ⟨rfl, rfl⟩; dsimp only) | (go_at_call 23; refine (refMask_c _ _ _ _).mono ?_; rintro e w' ⟨rfl, rfl⟩; dsimp only) | (go_at_call 25; refine (rsys_c _ _).mono ?_; rintro e w' ⟨rfl, hb⟩; replace HB : Hid (Below w.heap.size w w') := HB.out.trans (hb.mono HB.out.size); clear hb; dsimp only))
    all_goals (go_ret; refine ⟨ret_bool ?_, HB.out⟩; rw [hR.out]; first | rfl | (clear c0 c1 c2 c3 c4 c5 c6 c7 c8 c9 c10 c11 c12 c13 c14 c15 HB hR; first | (simp [*]; done) | (simp [*]; intros; rfl)))
set_option maxRecDepth 4000 in
set_option maxHeartbeats 4000000 in
theorem rr10 (S D N M A I J U F C Y : Int) (G X O L : Bool) (w : World) :
    Calls Tryz.prog 5 #[(⟨10, S, D, N, M, A, I, J, U, F, C, Y, G, X, O, L⟩ : Ins).val] w fun e w' => e = .returned (.bool (rightR ⟨10, S, D, N, M, A, I, J, U, F, C, Y, G, X, O, L⟩)) ∧ Below w.heap.size w w' := by
  have BX := heap_alloc_new w (.cells #[vI 10, vI S, vI D, vI N, vI M, vI A, vI I, vI J, vI U, vI F, vI C, vI Y, .bool G, .bool X, .bool O, .bool L] 23)
  have HB := below_alloc w (.cells #[vI 10, vI S, vI D, vI N, vI M, vI A, vI I, vI J, vI U, vI F, vI C, vI Y, .bool G, .bool X, .bool O, .bool L] 23)
  have hR : Hid (rightR ⟨10, S, D, N, M, A, I, J, U, F, C, Y, G, X, O, L⟩ = (clearB ⟨10, S, D, N, M, A, I, J, U, F, C, Y, G, X, O, L⟩ && (inB S 0 3 && inB C 0 15))) := rfl
  have HC := rclear_c 10 S D N M A I J U F C Y G X O L
  replace HC := show Hid _ from HC
  generalize rightR ⟨10, S, D, N, M, A, I, J, U, F, C, Y, G, X, O, L⟩ = R at hR ⊢
  generalize clearB ⟨10, S, D, N, M, A, I, J, U, F, C, Y, G, X, O, L⟩ = cl at hR HC
  cases cl
  · go_enter Tryz.func5, Tryz.ntmps5
    go_wp2_with (first | (go_at_call 21; refine (HC.out _).mono ?_; rintro e w1 ⟨rfl, hb⟩; replace BX := keepB BX hb; replace HB := thenH HB hb; clear hb HC; dsimp only; obtain ⟨c0, c1, c2, c3, c4, c5, c6, c7, c8, c9, c10, c11, c12, c13, c14, c15⟩ := cells16 BX; clear BX) | ((with_reducible refine wpList_load_if rfl 23 _ rfl w.heap.size rfl 23 _ (0, 0) _ BX Tryz.underlying23 rfl (infoK _ rfl) ?_); simp only [Act.put, List.setIfInBounds_toArray, List.set_cons_succ, List.set_cons_zero]))
    go_ret
    exact ⟨ret_bool (by rw [hR.out]; rfl), HB.out⟩
  · go_enter Tryz.func5, Tryz.ntmps5
    go_wp2_with (first | (go_at_call 21; refine (HC.out _).mono ?_; rintro e w1 ⟨rfl, hb⟩; replace BX := keepB BX hb; replace HB := thenH HB hb; clear hb HC; dsimp only; obtain ⟨c0, c1, c2, c3, c4, c5, c6, c7, c8, c9, c10, c11, c12, c13, c14, c15⟩ := cells16 BX; clear BX) | ((with_reducible refine wpList_load_if rfl 23 _ rfl w.heap.size rfl 23 _ (0, 0) _ BX Tryz.underlying23 rfl (infoK _ rfl) ?_); simp only [Act.put, List.setIfInBounds_toArray, List.set_cons_succ, List.set_cons_zero]) | (go_at_call 22; refine (in_c _ _ _ _).mono ?_; rintro e w' ⟨rfl, rfl⟩; dsimp only) | (go_at_call 24; refine (step_c _ _ _ _ (by decide) _).mono ?_; rintro e w' ⟨rfl, rfl⟩; dsimp only) | (go_at_call 23; refine (refMask_c _ _ _ _).mono ?_; rintro e w' ⟨rfl, rfl⟩; dsimp only) | (go_at_call 25; refine (rsys_c _ _).mono ?_; rintro e w' ⟨rfl, hb⟩; replace HB : Hid (Below w.heap.size w w') := HB.out.trans (hb.mono HB.out.size); clear hb; dsimp only))
    all_goals (go_ret; refine ⟨ret_bool ?_, HB.out⟩; rw [hR.out]; first | rfl | (clear c0 c1 c2 c3 c4 c5 c6 c7 c8 c9 c10 c11 c12 c13 c14 c15 HB hR; first | (simp [*]; done) | (simp [*]; intros; rfl)))
end Go.Proofs.YtjmdgfimmjodjaaGreatDoor
