/- Whether an instruction is right, as the document's own answer to chapter 2 tells it: contracts, an Op each. -/
import Derived.Test.YtjmdgfimmjodjaaGreatDoorV09
namespace Go.Proofs.YtjmdgfimmjodjaaGreatDoor
open Go.RowKit Go.Rel
set_option linter.unusedVariables false

set_option maxRecDepth 4000 in
set_option maxHeartbeats 4000000 in
theorem rr29 (S D N M A I J U F C Y : Int) (G X O L : Bool) (w : World) :
    Calls Tryz.prog 5 #[(⟨29, S, D, N, M, A, I, J, U, F, C, Y, G, X, O, L⟩ : Ins).val] w fun e w' => e = .returned (.bool (rightR ⟨29, S, D, N, M, A, I, J, U, F, C, Y, G, X, O, L⟩)) ∧ Below w.heap.size w w' := by
  have BX := heap_alloc_new w (.cells #[vI 29, vI S, vI D, vI N, vI M, vI A, vI I, vI J, vI U, vI F, vI C, vI Y, .bool G, .bool X, .bool O, .bool L] 23)
  have HB := below_alloc w (.cells #[vI 29, vI S, vI D, vI N, vI M, vI A, vI I, vI J, vI U, vI F, vI C, vI Y, .bool G, .bool X, .bool O, .bool L] 23)
  have hR : Hid (rightR ⟨29, S, D, N, M, A, I, J, U, F, C, Y, G, X, O, L⟩ = (clearB ⟨29, S, D, N, M, A, I, J, U, F, C, Y, G, X, O, L⟩ && (true))) := rfl
  have HC := rclear_c 29 S D N M A I J U F C Y G X O L
  replace HC := show Hid _ from HC
  generalize rightR ⟨29, S, D, N, M, A, I, J, U, F, C, Y, G, X, O, L⟩ = R at hR ⊢
  generalize clearB ⟨29, S, D, N, M, A, I, J, U, F, C, Y, G, X, O, L⟩ = cl at hR HC
  cases cl
  · go_enter Tryz.func5, Tryz.ntmps5
    go_wp2_with (first | (go_at_call 21; refine (HC.out _).mono ?_; rintro e w1 ⟨rfl, hb⟩; replace BX := keepB BX hb; replace HB := thenH HB hb; clear hb HC; dsimp only; obtain ⟨c0, c1, c2, c3, c4, c5, c6, c7, c8, c9, c10, c11, c12, c13, c14, c15⟩ := cells16 BX; clear BX) | ((with_reducible refine wpList_load_if rfl 23 _ rfl w.heap.size rfl 23 _ (0, 0) _ BX Tryz.underlying23 rfl (infoK _ rfl) ?_); simp only [Act.put, List.setIfInBounds_toArray, List.set_cons_succ, List.set_cons_zero]))
    go_ret
    exact ⟨ret_bool (by rw [hR.out]; rfl), HB.out⟩
  · go_enter Tryz.func5, Tryz.ntmps5
    go_wp2_with (first | (go_at_call 21; refine (HC.out _).mono ?_; rintro e w1 ⟨rfl, hb⟩; replace BX := keepB BX hb; replace HB := thenH HB hb; clear hb HC; dsimp only; obtain ⟨c0, c1, c2, c3, c4, c5, c6, c7, c8, c9, c10, c11, c12, c13, c14, c15⟩ := cells16 BX; clear BX) | ((with_reducible refine wpList_load_if rfl 23 _ rfl w.heap.size rfl 23 _ (0, 0) _ BX Tryz.underlying23 rfl (infoK _ rfl) ?_); simp only [Act.put, List.setIfInBounds_toArray, List.set_cons_succ, List.set_cons_zero]) | (go_at_call 22; refine (in_c _ _ _ _).mono ?_; rintro e w' ⟨rfl, rfl⟩; dsimp only) | (go_at_call 24; refine (step_c _ _ _ _ (by decide) _).mono ?_; rintro e w' ⟨rfl, rfl⟩; dsimp only) | (go_at_call 23; refine (refMask_c _ _ _ _).mono ?_; rintro e w' ⟨rfl, rfl⟩; dsimp only) | (go_at_call 25; refine (rsys_c _ _).mono ?_; rintro e w' ⟨rfl, hb⟩; replace HB : Hid (Below w.heap.size w w') := HB.out.trans (hb.mono HB.out.size); clear hb; dsimp only))
    all_goals (go_ret; refine ⟨ret_bool ?_, HB.out⟩; rw [hR.out]; first | rfl | (clear c0 c1 c2 c3 c4 c5 c6 c7 c8 c9 c10 c11 c12 c13 c14 c15 HB hR; first | (simp [*]; done) | (simp [*]; intros; rfl)))
set_option maxRecDepth 4000 in
set_option maxHeartbeats 4000000 in
theorem rr30 (S D N M A I J U F C Y : Int) (G X O L : Bool) (w : World) :
    Calls Tryz.prog 5 #[(⟨30, S, D, N, M, A, I, J, U, F, C, Y, G, X, O, L⟩ : Ins).val] w fun e w' => e = .returned (.bool (rightR ⟨30, S, D, N, M, A, I, J, U, F, C, Y, G, X, O, L⟩)) ∧ Below w.heap.size w w' := by
  have BX := heap_alloc_new w (.cells #[vI 30, vI S, vI D, vI N, vI M, vI A, vI I, vI J, vI U, vI F, vI C, vI Y, .bool G, .bool X, .bool O, .bool L] 23)
  have HB := below_alloc w (.cells #[vI 30, vI S, vI D, vI N, vI M, vI A, vI I, vI J, vI U, vI F, vI C, vI Y, .bool G, .bool X, .bool O, .bool L] 23)
  have hR : Hid (rightR ⟨30, S, D, N, M, A, I, J, U, F, C, Y, G, X, O, L⟩ = (clearB ⟨30, S, D, N, M, A, I, J, U, F, C, Y, G, X, O, L⟩ && (true))) := rfl
  have HC := rclear_c 30 S D N M A I J U F C Y G X O L
  replace HC := show Hid _ from HC
  generalize rightR ⟨30, S, D, N, M, A, I, J, U, F, C, Y, G, X, O, L⟩ = R at hR ⊢
  generalize clearB ⟨30, S, D, N, M, A, I, J, U, F, C, Y, G, X, O, L⟩ = cl at hR HC
  cases cl
  · go_enter Tryz.func5, Tryz.ntmps5
    go_wp2_with (first | (go_at_call 21; refine (HC.out _).mono ?_; rintro e w1 ⟨rfl, hb⟩; replace BX := keepB BX hb; replace HB := thenH HB hb; clear hb HC; dsimp only; obtain ⟨c0, c1, c2, c3, c4, c5, c6, c7, c8, c9, c10, c11, c12, c13, c14, c15⟩ := cells16 BX; clear BX) | ((with_reducible refine wpList_load_if rfl 23 _ rfl w.heap.size rfl 23 _ (0, 0) _ BX Tryz.underlying23 rfl (infoK _ rfl) ?_); simp only [Act.put, List.setIfInBounds_toArray, List.set_cons_succ, List.set_cons_zero]))
    go_ret
    exact ⟨ret_bool (by rw [hR.out]; rfl), HB.out⟩
  · go_enter Tryz.func5, Tryz.ntmps5
    go_wp2_with (first | (go_at_call 21; refine (HC.out _).mono ?_; rintro e w1 ⟨rfl, hb⟩; replace BX := keepB BX hb; replace HB := thenH HB hb; clear hb HC; dsimp only; obtain ⟨c0, c1, c2, c3, c4, c5, c6, c7, c8, c9, c10, c11, c12, c13, c14, c15⟩ := cells16 BX; clear BX) | ((with_reducible refine wpList_load_if rfl 23 _ rfl w.heap.size rfl 23 _ (0, 0) _ BX Tryz.underlying23 rfl (infoK _ rfl) ?_); simp only [Act.put, List.setIfInBounds_toArray, List.set_cons_succ, List.set_cons_zero]) | (go_at_call 22; refine (in_c _ _ _ _).mono ?_; rintro e w' ⟨rfl, rfl⟩; dsimp only) | (go_at_call 24; refine (step_c _ _ _ _ (by decide) _).mono ?_; rintro e w' ⟨rfl, rfl⟩; dsimp only) | (go_at_call 23; refine (refMask_c _ _ _ _).mono ?_; rintro e w' ⟨rfl, rfl⟩; dsimp only) | (go_at_call 25; refine (rsys_c _ _).mono ?_; rintro e w' ⟨rfl, hb⟩; replace HB : Hid (Below w.heap.size w w') := HB.out.trans (hb.mono HB.out.size); clear hb; dsimp only))
    all_goals (go_ret; refine ⟨ret_bool ?_, HB.out⟩; rw [hR.out]; first | rfl | (clear c0 c1 c2 c3 c4 c5 c6 c7 c8 c9 c10 c11 c12 c13 c14 c15 HB hR; first | (simp [*]; done) | (simp [*]; intros; rfl)))
set_option maxRecDepth 4000 in
set_option maxHeartbeats 4000000 in
theorem rr31 (S D N M A I J U F C Y : Int) (G X O L : Bool) (w : World) :
    Calls Tryz.prog 5 #[(⟨31, S, D, N, M, A, I, J, U, F, C, Y, G, X, O, L⟩ : Ins).val] w fun e w' => e = .returned (.bool (rightR ⟨31, S, D, N, M, A, I, J, U, F, C, Y, G, X, O, L⟩)) ∧ Below w.heap.size w w' := by
  have BX := heap_alloc_new w (.cells #[vI 31, vI S, vI D, vI N, vI M, vI A, vI I, vI J, vI U, vI F, vI C, vI Y, .bool G, .bool X, .bool O, .bool L] 23)
  have HB := below_alloc w (.cells #[vI 31, vI S, vI D, vI N, vI M, vI A, vI I, vI J, vI U, vI F, vI C, vI Y, .bool G, .bool X, .bool O, .bool L] 23)
  have hR : Hid (rightR ⟨31, S, D, N, M, A, I, J, U, F, C, Y, G, X, O, L⟩ = (clearB ⟨31, S, D, N, M, A, I, J, U, F, C, Y, G, X, O, L⟩ && (sysB Y))) := rfl
  have HC := rclear_c 31 S D N M A I J U F C Y G X O L
  replace HC := show Hid _ from HC
  generalize rightR ⟨31, S, D, N, M, A, I, J, U, F, C, Y, G, X, O, L⟩ = R at hR ⊢
  generalize clearB ⟨31, S, D, N, M, A, I, J, U, F, C, Y, G, X, O, L⟩ = cl at hR HC
  cases cl
  · go_enter Tryz.func5, Tryz.ntmps5
    go_wp2_with (first | (go_at_call 21; refine (HC.out _).mono ?_; rintro e w1 ⟨rfl, hb⟩; replace BX := keepB BX hb; replace HB := thenH HB hb; clear hb HC; dsimp only; obtain ⟨c0, c1, c2, c3, c4, c5, c6, c7, c8, c9, c10, c11, c12, c13, c14, c15⟩ := cells16 BX; clear BX) | ((with_reducible refine wpList_load_if rfl 23 _ rfl w.heap.size rfl 23 _ (0, 0) _ BX Tryz.underlying23 rfl (infoK _ rfl) ?_); simp only [Act.put, List.setIfInBounds_toArray, List.set_cons_succ, List.set_cons_zero]))
    go_ret
    exact ⟨ret_bool (by rw [hR.out]; rfl), HB.out⟩
  · go_enter Tryz.func5, Tryz.ntmps5
    go_wp2_with (first | (go_at_call 21; refine (HC.out _).mono ?_; rintro e w1 ⟨rfl, hb⟩; replace BX := keepB BX hb; replace HB := thenH HB hb; clear hb HC; dsimp only; obtain ⟨c0, c1, c2, c3, c4, c5, c6, c7, c8, c9, c10, c11, c12, c13, c14, c15⟩ := cells16 BX; clear BX) | ((with_reducible refine wpList_load_if rfl 23 _ rfl w.heap.size rfl 23 _ (0, 0) _ BX Tryz.underlying23 rfl (infoK _ rfl) ?_); simp only [Act.put, List.setIfInBounds_toArray, List.set_cons_succ, List.set_cons_zero]) | (go_at_call 22; refine (in_c _ _ _ _).mono ?_; rintro e w' ⟨rfl, rfl⟩; dsimp only) | (go_at_call 24; refine (step_c _ _ _ _ (by decide) _).mono ?_; rintro e w' ⟨rfl, rfl⟩; dsimp only) | (go_at_call 23; refine (refMask_c _ _ _ _).mono ?_; rintro e w' ⟨rfl, rfl⟩; dsimp only) | (go_at_call 25; refine (rsys_c _ _).mono ?_; rintro e w' ⟨rfl, hb⟩; replace HB : Hid (Below w.heap.size w w') := HB.out.trans (hb.mono HB.out.size); clear hb; dsimp only))
    all_goals (go_ret; refine ⟨ret_bool ?_, HB.out⟩; rw [hR.out]; first | rfl | (clear c0 c1 c2 c3 c4 c5 c6 c7 c8 c9 c10 c11 c12 c13 c14 c15 HB hR; first | (simp [*]; done) | (simp [*]; intros; rfl)))
set_option maxRecDepth 4000 in
set_option maxHeartbeats 4000000 in
theorem rr32 (S D N M A I J U F C Y : Int) (G X O L : Bool) (w : World) :
    Calls Tryz.prog 5 #[(⟨32, S, D, N, M, A, I, J, U, F, C, Y, G, X, O, L⟩ : Ins).val] w fun e w' => e = .returned (.bool (rightR ⟨32, S, D, N, M, A, I, J, U, F, C, Y, G, X, O, L⟩)) ∧ Below w.heap.size w w' := by
  have BX := heap_alloc_new w (.cells #[vI 32, vI S, vI D, vI N, vI M, vI A, vI I, vI J, vI U, vI F, vI C, vI Y, .bool G, .bool X, .bool O, .bool L] 23)
  have HB := below_alloc w (.cells #[vI 32, vI S, vI D, vI N, vI M, vI A, vI I, vI J, vI U, vI F, vI C, vI Y, .bool G, .bool X, .bool O, .bool L] 23)
  have hR : Hid (rightR ⟨32, S, D, N, M, A, I, J, U, F, C, Y, G, X, O, L⟩ = (clearB ⟨32, S, D, N, M, A, I, J, U, F, C, Y, G, X, O, L⟩ && (sysB Y))) := rfl
  have HC := rclear_c 32 S D N M A I J U F C Y G X O L
  replace HC := show Hid _ from HC
  generalize rightR ⟨32, S, D, N, M, A, I, J, U, F, C, Y, G, X, O, L⟩ = R at hR ⊢
  generalize clearB ⟨32, S, D, N, M, A, I, J, U, F, C, Y, G, X, O, L⟩ = cl at hR HC
  cases cl
  · go_enter Tryz.func5, Tryz.ntmps5
    go_wp2_with (first | (go_at_call 21; refine (HC.out _).mono ?_; rintro e w1 ⟨rfl, hb⟩; replace BX := keepB BX hb; replace HB := thenH HB hb; clear hb HC; dsimp only; obtain ⟨c0, c1, c2, c3, c4, c5, c6, c7, c8, c9, c10, c11, c12, c13, c14, c15⟩ := cells16 BX; clear BX) | ((with_reducible refine wpList_load_if rfl 23 _ rfl w.heap.size rfl 23 _ (0, 0) _ BX Tryz.underlying23 rfl (infoK _ rfl) ?_); simp only [Act.put, List.setIfInBounds_toArray, List.set_cons_succ, List.set_cons_zero]))
    go_ret
    exact ⟨ret_bool (by rw [hR.out]; rfl), HB.out⟩
  · go_enter Tryz.func5, Tryz.ntmps5
    go_wp2_with (first | (go_at_call 21; refine (HC.out _).mono ?_; rintro e w1 ⟨rfl, hb⟩; replace BX := keepB BX hb; replace HB := thenH HB hb; clear hb HC; dsimp only; obtain ⟨c0, c1, c2, c3, c4, c5, c6, c7, c8, c9, c10, c11, c12, c13, c14, c15⟩ := cells16 BX; clear BX) | ((with_reducible refine wpList_load_if rfl 23 _ rfl w.heap.size rfl 23 _ (0, 0) _ BX Tryz.underlying23 rfl (infoK _ rfl) ?_); simp only [Act.put, List.setIfInBounds_toArray, List.set_cons_succ, List.set_cons_zero]) | (go_at_call 22; refine (in_c _ _ _ _).mono ?_; rintro e w' ⟨rfl, rfl⟩; dsimp only) | (go_at_call 24; refine (step_c _ _ _ _ (by decide) _).mono ?_; rintro e w' ⟨rfl, rfl⟩; dsimp only) | (go_at_call 23; refine (refMask_c _ _ _ _).mono ?_; rintro e w' ⟨rfl, rfl⟩; dsimp only) | (go_at_call 25; refine (rsys_c _ _).mono ?_; rintro e w' ⟨rfl, hb⟩; replace HB : Hid (Below w.heap.size w w') := HB.out.trans (hb.mono HB.out.size); clear hb; dsimp only))
    all_goals (go_ret; refine ⟨ret_bool ?_, HB.out⟩; rw [hR.out]; first | rfl | (clear c0 c1 c2 c3 c4 c5 c6 c7 c8 c9 c10 c11 c12 c13 c14 c15 HB hR; first | (simp [*]; done) | (simp [*]; intros; rfl)))
set_option maxRecDepth 4000 in
set_option maxHeartbeats 4000000 in
theorem rr33 (S D N M A I J U F C Y : Int) (G X O L : Bool) (w : World) :
    Calls Tryz.prog 5 #[(⟨33, S, D, N, M, A, I, J, U, F, C, Y, G, X, O, L⟩ : Ins).val] w fun e w' => e = .returned (.bool (rightR ⟨33, S, D, N, M, A, I, J, U, F, C, Y, G, X, O, L⟩)) ∧ Below w.heap.size w w' := by
  have BX := heap_alloc_new w (.cells #[vI 33, vI S, vI D, vI N, vI M, vI A, vI I, vI J, vI U, vI F, vI C, vI Y, .bool G, .bool X, .bool O, .bool L] 23)
  have HB := below_alloc w (.cells #[vI 33, vI S, vI D, vI N, vI M, vI A, vI I, vI J, vI U, vI F, vI C, vI Y, .bool G, .bool X, .bool O, .bool L] 23)
  have hR : Hid (rightR ⟨33, S, D, N, M, A, I, J, U, F, C, Y, G, X, O, L⟩ = (clearB ⟨33, S, D, N, M, A, I, J, U, F, C, Y, G, X, O, L⟩ && (inB S 0 1 && inB I 0 15))) := rfl
  have HC := rclear_c 33 S D N M A I J U F C Y G X O L
  replace HC := show Hid _ from HC
  generalize rightR ⟨33, S, D, N, M, A, I, J, U, F, C, Y, G, X, O, L⟩ = R at hR ⊢
  generalize clearB ⟨33, S, D, N, M, A, I, J, U, F, C, Y, G, X, O, L⟩ = cl at hR HC
  cases cl
  · go_enter Tryz.func5, Tryz.ntmps5
    go_wp2_with (first | (go_at_call 21; refine (HC.out _).mono ?_; rintro e w1 ⟨rfl, hb⟩; replace BX := keepB BX hb; replace HB := thenH HB hb; clear hb HC; dsimp only; obtain ⟨c0, c1, c2, c3, c4, c5, c6, c7, c8, c9, c10, c11, c12, c13, c14, c15⟩ := cells16 BX; clear BX) | ((with_reducible refine wpList_load_if rfl 23 _ rfl w.heap.size rfl 23 _ (0, 0) _ BX Tryz.underlying23 rfl (infoK _ rfl) ?_); simp only [Act.put, List.setIfInBounds_toArray, List.set_cons_succ, List.set_cons_zero]))
    go_ret
    exact ⟨ret_bool (by rw [hR.out]; rfl), HB.out⟩
  · go_enter Tryz.func5, Tryz.ntmps5
    go_wp2_with (first | (go_at_call 21; refine (HC.out _).mono ?_; rintro e w1 ⟨rfl, hb⟩; replace BX := keepB BX hb; replace HB := thenH HB hb; clear hb HC; dsimp only; obtain ⟨c0, c1, c2, c3, c4, c5, c6, c7, c8, c9, c10, c11, c12, c13, c14, c15⟩ := cells16 BX; clear BX) | ((with_reducible refine wpList_load_if rfl 23 _ rfl w.heap.size rfl 23 _ (0, 0) _ BX Tryz.underlying23 rfl (infoK _ rfl) ?_); simp only [Act.put, List.setIfInBounds_toArray, List.set_cons_succ, List.set_cons_zero]) | (go_at_call 22; refine (in_c _ _ _ _).mono ?_; rintro e w' ⟨rfl, rfl⟩; dsimp only) | (go_at_call 24; refine (step_c _ _ _ _ (by decide) _).mono ?_; rintro e w' ⟨rfl, rfl⟩; dsimp only) | (go_at_call 23; refine (refMask_c _ _ _ _).mono ?_; rintro e w' ⟨rfl, rfl⟩; dsimp only) | (go_at_call 25; refine (rsys_c _ _).mono ?_; rintro e w' ⟨rfl, hb⟩; replace HB : Hid (Below w.heap.size w w') := HB.out.trans (hb.mono HB.out.size); clear hb; dsimp only))
    all_goals (go_ret; refine ⟨ret_bool ?_, HB.out⟩; rw [hR.out]; first | rfl | (clear c0 c1 c2 c3 c4 c5 c6 c7 c8 c9 c10 c11 c12 c13 c14 c15 HB hR; first | (simp [*]; done) | (simp [*]; intros; rfl)))
set_option maxRecDepth 4000 in
set_option maxHeartbeats 4000000 in
theorem rr34 (S D N M A I J U F C Y : Int) (G X O L : Bool) (w : World) :
    Calls Tryz.prog 5 #[(⟨34, S, D, N, M, A, I, J, U, F, C, Y, G, X, O, L⟩ : Ins).val] w fun e w' => e = .returned (.bool (rightR ⟨34, S, D, N, M, A, I, J, U, F, C, Y, G, X, O, L⟩)) ∧ Below w.heap.size w w' := by
  have BX := heap_alloc_new w (.cells #[vI 34, vI S, vI D, vI N, vI M, vI A, vI I, vI J, vI U, vI F, vI C, vI Y, .bool G, .bool X, .bool O, .bool L] 23)
  have HB := below_alloc w (.cells #[vI 34, vI S, vI D, vI N, vI M, vI A, vI I, vI J, vI U, vI F, vI C, vI Y, .bool G, .bool X, .bool O, .bool L] 23)
  have hR : Hid (rightR ⟨34, S, D, N, M, A, I, J, U, F, C, Y, G, X, O, L⟩ = (clearB ⟨34, S, D, N, M, A, I, J, U, F, C, Y, G, X, O, L⟩ && (inB I 0 65535))) := rfl
  have HC := rclear_c 34 S D N M A I J U F C Y G X O L
  replace HC := show Hid _ from HC
  generalize rightR ⟨34, S, D, N, M, A, I, J, U, F, C, Y, G, X, O, L⟩ = R at hR ⊢
  generalize clearB ⟨34, S, D, N, M, A, I, J, U, F, C, Y, G, X, O, L⟩ = cl at hR HC
  cases cl
  · go_enter Tryz.func5, Tryz.ntmps5
    go_wp2_with (first | (go_at_call 21; refine (HC.out _).mono ?_; rintro e w1 ⟨rfl, hb⟩; replace BX := keepB BX hb; replace HB := thenH HB hb; clear hb HC; dsimp only; obtain ⟨c0, c1, c2, c3, c4, c5, c6, c7, c8, c9, c10, c11, c12, c13, c14, c15⟩ := cells16 BX; clear BX) | ((with_reducible refine wpList_load_if rfl 23 _ rfl w.heap.size rfl 23 _ (0, 0) _ BX Tryz.underlying23 rfl (infoK _ rfl) ?_); simp only [Act.put, List.setIfInBounds_toArray, List.set_cons_succ, List.set_cons_zero]))
    go_ret
    exact ⟨ret_bool (by rw [hR.out]; rfl), HB.out⟩
  · go_enter Tryz.func5, Tryz.ntmps5
    go_wp2_with (first | (go_at_call 21; refine (HC.out _).mono ?_; rintro e w1 ⟨rfl, hb⟩; replace BX := keepB BX hb; replace HB := thenH HB hb; clear hb HC; dsimp only; obtain ⟨c0, c1, c2, c3, c4, c5, c6, c7, c8, c9, c10, c11, c12, c13, c14, c15⟩ := cells16 BX; clear BX) | ((with_reducible refine wpList_load_if rfl 23 _ rfl w.heap.size rfl 23 _ (0, 0) _ BX Tryz.underlying23 rfl (infoK _ rfl) ?_); simp only [Act.put, List.setIfInBounds_toArray, List.set_cons_succ, List.set_cons_zero]) | (go_at_call 22; refine (in_c _ _ _ _).mono ?_; rintro e w' ⟨rfl, rfl⟩; dsimp only) | (go_at_call 24; refine (step_c _ _ _ _ (by decide) _).mono ?_; rintro e w' ⟨rfl, rfl⟩; dsimp only) | (go_at_call 23; refine (refMask_c _ _ _ _).mono ?_; rintro e w' ⟨rfl, rfl⟩; dsimp only) | (go_at_call 25; refine (rsys_c _ _).mono ?_; rintro e w' ⟨rfl, hb⟩; replace HB : Hid (Below w.heap.size w w') := HB.out.trans (hb.mono HB.out.size); clear hb; dsimp only))
    all_goals (go_ret; refine ⟨ret_bool ?_, HB.out⟩; rw [hR.out]; first | rfl | (clear c0 c1 c2 c3 c4 c5 c6 c7 c8 c9 c10 c11 c12 c13 c14 c15 HB hR; first | (simp [*]; done) | (simp [*]; intros; rfl)))
set_option maxRecDepth 4000 in
set_option maxHeartbeats 4000000 in
theorem rr35 (S D N M A I J U F C Y : Int) (G X O L : Bool) (w : World) :
    Calls Tryz.prog 5 #[(⟨35, S, D, N, M, A, I, J, U, F, C, Y, G, X, O, L⟩ : Ins).val] w fun e w' => e = .returned (.bool (rightR ⟨35, S, D, N, M, A, I, J, U, F, C, Y, G, X, O, L⟩)) ∧ Below w.heap.size w w' := by
  have BX := heap_alloc_new w (.cells #[vI 35, vI S, vI D, vI N, vI M, vI A, vI I, vI J, vI U, vI F, vI C, vI Y, .bool G, .bool X, .bool O, .bool L] 23)
  have HB := below_alloc w (.cells #[vI 35, vI S, vI D, vI N, vI M, vI A, vI I, vI J, vI U, vI F, vI C, vI Y, .bool G, .bool X, .bool O, .bool L] 23)
  have hR : Hid (rightR ⟨35, S, D, N, M, A, I, J, U, F, C, Y, G, X, O, L⟩ = (clearB ⟨35, S, D, N, M, A, I, J, U, F, C, Y, G, X, O, L⟩ && (inB I 0 65535))) := rfl
  have HC := rclear_c 35 S D N M A I J U F C Y G X O L
  replace HC := show Hid _ from HC
  generalize rightR ⟨35, S, D, N, M, A, I, J, U, F, C, Y, G, X, O, L⟩ = R at hR ⊢
  generalize clearB ⟨35, S, D, N, M, A, I, J, U, F, C, Y, G, X, O, L⟩ = cl at hR HC
  cases cl
  · go_enter Tryz.func5, Tryz.ntmps5
    go_wp2_with (first | (go_at_call 21; refine (HC.out _).mono ?_; rintro e w1 ⟨rfl, hb⟩; replace BX := keepB BX hb; replace HB := thenH HB hb; clear hb HC; dsimp only; obtain ⟨c0, c1, c2, c3, c4, c5, c6, c7, c8, c9, c10, c11, c12, c13, c14, c15⟩ := cells16 BX; clear BX) | ((with_reducible refine wpList_load_if rfl 23 _ rfl w.heap.size rfl 23 _ (0, 0) _ BX Tryz.underlying23 rfl (infoK _ rfl) ?_); simp only [Act.put, List.setIfInBounds_toArray, List.set_cons_succ, List.set_cons_zero]))
    go_ret
    exact ⟨ret_bool (by rw [hR.out]; rfl), HB.out⟩
  · go_enter Tryz.func5, Tryz.ntmps5
    go_wp2_with (first | (go_at_call 21; refine (HC.out _).mono ?_; rintro e w1 ⟨rfl, hb⟩; replace BX := keepB BX hb; replace HB := thenH HB hb; clear hb HC; dsimp only; obtain ⟨c0, c1, c2, c3, c4, c5, c6, c7, c8, c9, c10, c11, c12, c13, c14, c15⟩ := cells16 BX; clear BX) | ((with_reducible refine wpList_load_if rfl 23 _ rfl w.heap.size rfl 23 _ (0, 0) _ BX Tryz.underlying23 rfl (infoK _ rfl) ?_); simp only [Act.put, List.setIfInBounds_toArray, List.set_cons_succ, List.set_cons_zero]) | (go_at_call 22; refine (in_c _ _ _ _).mono ?_; rintro e w' ⟨rfl, rfl⟩; dsimp only) | (go_at_call 24; refine (step_c _ _ _ _ (by decide) _).mono ?_; rintro e w' ⟨rfl, rfl⟩; dsimp only) | (go_at_call 23; refine (refMask_c _ _ _ _).mono ?_; rintro e w' ⟨rfl, rfl⟩; dsimp only) | (go_at_call 25; refine (rsys_c _ _).mono ?_; rintro e w' ⟨rfl, hb⟩; replace HB : Hid (Below w.heap.size w w') := HB.out.trans (hb.mono HB.out.size); clear hb; dsimp only))
    all_goals (go_ret; refine ⟨ret_bool ?_, HB.out⟩; rw [hR.out]; first | rfl | (clear c0 c1 c2 c3 c4 c5 c6 c7 c8 c9 c10 c11 c12 c13 c14 c15 HB hR; first | (simp [*]; done) | (simp [*]; intros; rfl)))
set_option maxRecDepth 4000 in
set_option maxHeartbeats 4000000 in
theorem rr36 (S D N M A I J U F C Y : Int) (G X O L : Bool) (w : World) :
    Calls Tryz.prog 5 #[(⟨36, S, D, N, M, A, I, J, U, F, C, Y, G, X, O, L⟩ : Ins).val] w fun e w' => e = .returned (.bool (rightR ⟨36, S, D, N, M, A, I, J, U, F, C, Y, G, X, O, L⟩)) ∧ Below w.heap.size w w' := by
  have BX := heap_alloc_new w (.cells #[vI 36, vI S, vI D, vI N, vI M, vI A, vI I, vI J, vI U, vI F, vI C, vI Y, .bool G, .bool X, .bool O, .bool L] 23)
  have HB := below_alloc w (.cells #[vI 36, vI S, vI D, vI N, vI M, vI A, vI I, vI J, vI U, vI F, vI C, vI Y, .bool G, .bool X, .bool O, .bool L] 23)
  have hR : Hid (rightR ⟨36, S, D, N, M, A, I, J, U, F, C, Y, G, X, O, L⟩ = (clearB ⟨36, S, D, N, M, A, I, J, U, F, C, Y, G, X, O, L⟩ && (true))) := rfl
  have HC := rclear_c 36 S D N M A I J U F C Y G X O L
  replace HC := show Hid _ from HC
  generalize rightR ⟨36, S, D, N, M, A, I, J, U, F, C, Y, G, X, O, L⟩ = R at hR ⊢
  generalize clearB ⟨36, S, D, N, M, A, I, J, U, F, C, Y, G, X, O, L⟩ = cl at hR HC
  cases cl
  · go_enter Tryz.func5, Tryz.ntmps5
    go_wp2_with (first | (go_at_call 21; refine (HC.out _).mono ?_; rintro e w1 ⟨rfl, hb⟩; replace BX := keepB BX hb; replace HB := thenH HB hb; clear hb HC; dsimp only; obtain ⟨c0, c1, c2, c3, c4, c5, c6, c7, c8, c9, c10, c11, c12, c13, c14, c15⟩ := cells16 BX; clear BX) | ((with_reducible refine wpList_load_if rfl 23 _ rfl w.heap.size rfl 23 _ (0, 0) _ BX Tryz.underlying23 rfl (infoK _ rfl) ?_); simp only [Act.put, List.setIfInBounds_toArray, List.set_cons_succ, List.set_cons_zero]))
    go_ret
    exact ⟨ret_bool (by rw [hR.out]; rfl), HB.out⟩
  · go_enter Tryz.func5, Tryz.ntmps5
    go_wp2_with (first | (go_at_call 21; refine (HC.out _).mono ?_; rintro e w1 ⟨rfl, hb⟩; replace BX := keepB BX hb; replace HB := thenH HB hb; clear hb HC; dsimp only; obtain ⟨c0, c1, c2, c3, c4, c5, c6, c7, c8, c9, c10, c11, c12, c13, c14, c15⟩ := cells16 BX; clear BX) | ((with_reducible refine wpList_load_if rfl 23 _ rfl w.heap.size rfl 23 _ (0, 0) _ BX Tryz.underlying23 rfl (infoK _ rfl) ?_); simp only [Act.put, List.setIfInBounds_toArray, List.set_cons_succ, List.set_cons_zero]) | (go_at_call 22; refine (in_c _ _ _ _).mono ?_; rintro e w' ⟨rfl, rfl⟩; dsimp only) | (go_at_call 24; refine (step_c _ _ _ _ (by decide) _).mono ?_; rintro e w' ⟨rfl, rfl⟩; dsimp only) | (go_at_call 23; refine (refMask_c _ _ _ _).mono ?_; rintro e w' ⟨rfl, rfl⟩; dsimp only) | (go_at_call 25; refine (rsys_c _ _).mono ?_; rintro e w' ⟨rfl, hb⟩; replace HB : Hid (Below w.heap.size w w') := HB.out.trans (hb.mono HB.out.size); clear hb; dsimp only))
    all_goals (go_ret; refine ⟨ret_bool ?_, HB.out⟩; rw [hR.out]; first | rfl | (clear c0 c1 c2 c3 c4 c5 c6 c7 c8 c9 c10 c11 c12 c13 c14 c15 HB hR; first | (simp [*]; done) | (simp [*]; intros; rfl)))
set_option maxRecDepth 4000 in
set_option maxHeartbeats 4000000 in
theorem rr37 (S D N M A I J U F C Y : Int) (G X O L : Bool) (w : World) :
    Calls Tryz.prog 5 #[(⟨37, S, D, N, M, A, I, J, U, F, C, Y, G, X, O, L⟩ : Ins).val] w fun e w' => e = .returned (.bool (rightR ⟨37, S, D, N, M, A, I, J, U, F, C, Y, G, X, O, L⟩)) ∧ Below w.heap.size w w' := by
  have BX := heap_alloc_new w (.cells #[vI 37, vI S, vI D, vI N, vI M, vI A, vI I, vI J, vI U, vI F, vI C, vI Y, .bool G, .bool X, .bool O, .bool L] 23)
  have HB := below_alloc w (.cells #[vI 37, vI S, vI D, vI N, vI M, vI A, vI I, vI J, vI U, vI F, vI C, vI Y, .bool G, .bool X, .bool O, .bool L] 23)
  have hR : Hid (rightR ⟨37, S, D, N, M, A, I, J, U, F, C, Y, G, X, O, L⟩ = (clearB ⟨37, S, D, N, M, A, I, J, U, F, C, Y, G, X, O, L⟩ && (inB I 0 5))) := rfl
  have HC := rclear_c 37 S D N M A I J U F C Y G X O L
  replace HC := show Hid _ from HC
  generalize rightR ⟨37, S, D, N, M, A, I, J, U, F, C, Y, G, X, O, L⟩ = R at hR ⊢
  generalize clearB ⟨37, S, D, N, M, A, I, J, U, F, C, Y, G, X, O, L⟩ = cl at hR HC
  cases cl
  · go_enter Tryz.func5, Tryz.ntmps5
    go_wp2_with (first | (go_at_call 21; refine (HC.out _).mono ?_; rintro e w1 ⟨rfl, hb⟩; replace BX := keepB BX hb; replace HB := thenH HB hb; clear hb HC; dsimp only; obtain ⟨c0, c1, c2, c3, c4, c5, c6, c7, c8, c9, c10, c11, c12, c13, c14, c15⟩ := cells16 BX; clear BX) | ((with_reducible refine wpList_load_if rfl 23 _ rfl w.heap.size rfl 23 _ (0, 0) _ BX Tryz.underlying23 rfl (infoK _ rfl) ?_); simp only [Act.put, List.setIfInBounds_toArray, List.set_cons_succ, List.set_cons_zero]))
    go_ret
    exact ⟨ret_bool (by rw [hR.out]; rfl), HB.out⟩
  · go_enter Tryz.func5, Tryz.ntmps5
    go_wp2_with (first | (go_at_call 21; refine (HC.out _).mono ?_; rintro e w1 ⟨rfl, hb⟩; replace BX := keepB BX hb; replace HB := thenH HB hb; clear hb HC; dsimp only; obtain ⟨c0, c1, c2, c3, c4, c5, c6, c7, c8, c9, c10, c11, c12, c13, c14, c15⟩ := cells16 BX; clear BX) | ((with_reducible refine wpList_load_if rfl 23 _ rfl w.heap.size rfl 23 _ (0, 0) _ BX Tryz.underlying23 rfl (infoK _ rfl) ?_); simp only [Act.put, List.setIfInBounds_toArray, List.set_cons_succ, List.set_cons_zero]) | (go_at_call 22; refine (in_c _ _ _ _).mono ?_; rintro e w' ⟨rfl, rfl⟩; dsimp only) | (go_at_call 24; refine (step_c _ _ _ _ (by decide) _).mono ?_; rintro e w' ⟨rfl, rfl⟩; dsimp only) | (go_at_call 23; refine (refMask_c _ _ _ _).mono ?_; rintro e w' ⟨rfl, rfl⟩; dsimp only) | (go_at_call 25; refine (rsys_c _ _).mono ?_; rintro e w' ⟨rfl, hb⟩; replace HB : Hid (Below w.heap.size w w') := HB.out.trans (hb.mono HB.out.size); clear hb; dsimp only))
    all_goals (go_ret; refine ⟨ret_bool ?_, HB.out⟩; rw [hR.out]; first | rfl | (clear c0 c1 c2 c3 c4 c5 c6 c7 c8 c9 c10 c11 c12 c13 c14 c15 HB hR; first | (simp [*]; done) | (simp [*]; intros; rfl)))
end Go.Proofs.YtjmdgfimmjodjaaGreatDoor
