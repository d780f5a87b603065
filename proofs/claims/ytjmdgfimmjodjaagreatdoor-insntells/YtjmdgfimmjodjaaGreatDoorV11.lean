/- Whether an instruction is right, as the document's own answer to chapter 2 tells it: contracts, an Op each. -/
import Derived.Test.YtjmdgfimmjodjaaGreatDoorV09
namespace Go.Proofs.YtjmdgfimmjodjaaGreatDoor
open Go.RowKit Go.Rel
set_option linter.unusedVariables false

set_option maxRecDepth 4000 in
set_option maxHeartbeats 4000000 in
theorem rr11 (S D N M A I J U F C Y : Int) (G X O L : Bool) (w : World) :
    Calls Tryz.prog 5 #[(⟨11, S, D, N, M, A, I, J, U, F, C, Y, G, X, O, L⟩ : Ins).val] w fun e w' => e = .returned (.bool (rightR ⟨11, S, D, N, M, A, I, J, U, F, C, Y, G, X, O, L⟩)) ∧ Below w.heap.size w w' := by
  have BX := heap_alloc_new w (.cells #[vI 11, vI S, vI D, vI N, vI M, vI A, vI I, vI J, vI U, vI F, vI C, vI Y, .bool G, .bool X, .bool O, .bool L] 23)
  have HB := below_alloc w (.cells #[vI 11, vI S, vI D, vI N, vI M, vI A, vI I, vI J, vI U, vI F, vI C, vI Y, .bool G, .bool X, .bool O, .bool L] 23)
  have hR : Hid (rightR ⟨11, S, D, N, M, A, I, J, U, F, C, Y, G, X, O, L⟩ = (clearB ⟨11, S, D, N, M, A, I, J, U, F, C, Y, G, X, O, L⟩ && ((S == 0 && inB I (-1048576) 1048575 || S == 1 && stepB I 4096 (-4294967296) 4294963200)))) := rfl
  have HC := rclear_c 11 S D N M A I J U F C Y G X O L
  replace HC := show Hid _ from HC
  generalize rightR ⟨11, S, D, N, M, A, I, J, U, F, C, Y, G, X, O, L⟩ = R at hR ⊢
  generalize clearB ⟨11, S, D, N, M, A, I, J, U, F, C, Y, G, X, O, L⟩ = cl at hR HC
  cases cl
  · go_enter Tryz.func5, Tryz.ntmps5
    go_wp2_with (first | (go_at_call 21; refine (HC.out _).mono ?_; rintro e w1 ⟨rfl, hb⟩; replace BX := keepB BX hb; replace HB := thenH HB hb; clear hb HC; dsimp only; obtain ⟨c0, c1, c2, c3, c4, c5, c6, c7, c8, c9, c10, c11, c12, c13, c14, c15⟩ := cells16 BX; clear BX) | ((with_reducible refine wpList_load_if rfl 23 _ rfl w.heap.size rfl 23 _ (0, 0) _ BX Tryz.underlying23 rfl (infoK _ rfl) ?_); simp only [Act.put, List.setIfInBounds_toArray, List.set_cons_succ, List.set_cons_zero]))
    go_ret
    exact ⟨ret_bool (by rw [hR.out]; rfl), HB.out⟩
  · go_enter Tryz.func5, Tryz.ntmps5
    go_wp2_with (first | (go_at_call 21; refine (HC.out _).mono ?_; rintro e w1 ⟨rfl, hb⟩; replace BX := keepB BX hb; replace HB := thenH HB hb; clear hb HC; dsimp only; obtain ⟨c0, c1, c2, c3, c4, c5, c6, c7, c8, c9, c10, c11, c12, c13, c14, c15⟩ := cells16 BX; clear BX) | ((with_reducible refine wpList_load_if rfl 23 _ rfl w.heap.size rfl 23 _ (0, 0) _ BX Tryz.underlying23 rfl (infoK _ rfl) ?_); simp only [Act.put, List.setIfInBounds_toArray, List.set_cons_succ, List.set_cons_zero]) | (go_at_call 22; refine (in_c _ _ _ _).mono ?_; rintro e w' ⟨rfl, rfl⟩; dsimp only) | (go_at_call 24; refine (step_c _ _ _ _ (by decide) _).mono ?_; rintro e w' ⟨rfl, rfl⟩; dsimp only) | (go_at_call 23; refine (refMask_c _ _ _ _).mono ?_; rintro e w' ⟨rfl, rfl⟩; dsimp only) | (go_at_call 25; refine (rsys_c _ _).mono ?_; rintro e w' ⟨rfl, hb⟩; replace HB : Hid (Below w.heap.size w w') := HB.out.trans (hb.mono HB.out.size); clear hb; dsimp only))
    all_goals (go_ret; refine ⟨ret_bool ?_, HB.out⟩; rw [hR.out]; first | rfl | (clear c0 c1 c2 c3 c4 c5 c6 c7 c8 c9 c10 c11 c12 c13 c14 c15 HB hR; first | (simp [*]; done) | (simp [*]; intros; rfl)))
set_option maxRecDepth 4000 in
set_option maxHeartbeats 4000000 in
theorem rr12 (S D N M A I J U F C Y : Int) (G X O L : Bool) (w : World) :
    Calls Tryz.prog 5 #[(⟨12, S, D, N, M, A, I, J, U, F, C, Y, G, X, O, L⟩ : Ins).val] w fun e w' => e = .returned (.bool (rightR ⟨12, S, D, N, M, A, I, J, U, F, C, Y, G, X, O, L⟩)) ∧ Below w.heap.size w w' := by
  have BX := heap_alloc_new w (.cells #[vI 12, vI S, vI D, vI N, vI M, vI A, vI I, vI J, vI U, vI F, vI C, vI Y, .bool G, .bool X, .bool O, .bool L] 23)
  have HB := below_alloc w (.cells #[vI 12, vI S, vI D, vI N, vI M, vI A, vI I, vI J, vI U, vI F, vI C, vI Y, .bool G, .bool X, .bool O, .bool L] 23)
  have hR : Hid (rightR ⟨12, S, D, N, M, A, I, J, U, F, C, Y, G, X, O, L⟩ = (clearB ⟨12, S, D, N, M, A, I, J, U, F, C, Y, G, X, O, L⟩ && (stepB I 4 (-134217728) 134217724))) := rfl
  have HC := rclear_c 12 S D N M A I J U F C Y G X O L
  replace HC := show Hid _ from HC
  generalize rightR ⟨12, S, D, N, M, A, I, J, U, F, C, Y, G, X, O, L⟩ = R at hR ⊢
  generalize clearB ⟨12, S, D, N, M, A, I, J, U, F, C, Y, G, X, O, L⟩ = cl at hR HC
  cases cl
  · go_enter Tryz.func5, Tryz.ntmps5
    go_wp2_with (first | (go_at_call 21; refine (HC.out _).mono ?_; rintro e w1 ⟨rfl, hb⟩; replace BX := keepB BX hb; replace HB := thenH HB hb; clear hb HC; dsimp only; obtain ⟨c0, c1, c2, c3, c4, c5, c6, c7, c8, c9, c10, c11, c12, c13, c14, c15⟩ := cells16 BX; clear BX) | ((with_reducible refine wpList_load_if rfl 23 _ rfl w.heap.size rfl 23 _ (0, 0) _ BX Tryz.underlying23 rfl (infoK _ rfl) ?_); simp only [Act.put, List.setIfInBounds_toArray, List.set_cons_succ, List.set_cons_zero]))
    go_ret
    exact ⟨ret_bool (by rw [hR.out]; rfl), HB.out⟩
  · go_enter Tryz.func5, Tryz.ntmps5
    go_wp2_with (first | (go_at_call 21; refine (HC.out _).mono ?_; rintro e w1 ⟨rfl, hb⟩; replace BX := keepB BX hb; replace HB := thenH HB hb; clear hb HC; dsimp only; obtain ⟨c0, c1, c2, c3, c4, c5, c6, c7, c8, c9, c10, c11, c12, c13, c14, c15⟩ := cells16 BX; clear BX) | ((with_reducible refine wpList_load_if rfl 23 _ rfl w.heap.size rfl 23 _ (0, 0) _ BX Tryz.underlying23 rfl (infoK _ rfl) ?_); simp only [Act.put, List.setIfInBounds_toArray, List.set_cons_succ, List.set_cons_zero]) | (go_at_call 22; refine (in_c _ _ _ _).mono ?_; rintro e w' ⟨rfl, rfl⟩; dsimp only) | (go_at_call 24; refine (step_c _ _ _ _ (by decide) _).mono ?_; rintro e w' ⟨rfl, rfl⟩; dsimp only) | (go_at_call 23; refine (refMask_c _ _ _ _).mono ?_; rintro e w' ⟨rfl, rfl⟩; dsimp only) | (go_at_call 25; refine (rsys_c _ _).mono ?_; rintro e w' ⟨rfl, hb⟩; replace HB : Hid (Below w.heap.size w w') := HB.out.trans (hb.mono HB.out.size); clear hb; dsimp only))
    all_goals (go_ret; refine ⟨ret_bool ?_, HB.out⟩; rw [hR.out]; first | rfl | (clear c0 c1 c2 c3 c4 c5 c6 c7 c8 c9 c10 c11 c12 c13 c14 c15 HB hR; first | (simp [*]; done) | (simp [*]; intros; rfl)))
set_option maxRecDepth 4000 in
set_option maxHeartbeats 4000000 in
theorem rr13 (S D N M A I J U F C Y : Int) (G X O L : Bool) (w : World) :
    Calls Tryz.prog 5 #[(⟨13, S, D, N, M, A, I, J, U, F, C, Y, G, X, O, L⟩ : Ins).val] w fun e w' => e = .returned (.bool (rightR ⟨13, S, D, N, M, A, I, J, U, F, C, Y, G, X, O, L⟩)) ∧ Below w.heap.size w w' := by
  have BX := heap_alloc_new w (.cells #[vI 13, vI S, vI D, vI N, vI M, vI A, vI I, vI J, vI U, vI F, vI C, vI Y, .bool G, .bool X, .bool O, .bool L] 23)
  have HB := below_alloc w (.cells #[vI 13, vI S, vI D, vI N, vI M, vI A, vI I, vI J, vI U, vI F, vI C, vI Y, .bool G, .bool X, .bool O, .bool L] 23)
  have hR : Hid (rightR ⟨13, S, D, N, M, A, I, J, U, F, C, Y, G, X, O, L⟩ = (clearB ⟨13, S, D, N, M, A, I, J, U, F, C, Y, G, X, O, L⟩ && (inB C 0 15 && stepB I 4 (-1048576) 1048572))) := rfl
  have HC := rclear_c 13 S D N M A I J U F C Y G X O L
  replace HC := show Hid _ from HC
  generalize rightR ⟨13, S, D, N, M, A, I, J, U, F, C, Y, G, X, O, L⟩ = R at hR ⊢
  generalize clearB ⟨13, S, D, N, M, A, I, J, U, F, C, Y, G, X, O, L⟩ = cl at hR HC
  cases cl
  · go_enter Tryz.func5, Tryz.ntmps5
    go_wp2_with (first | (go_at_call 21; refine (HC.out _).mono ?_; rintro e w1 ⟨rfl, hb⟩; replace BX := keepB BX hb; replace HB := thenH HB hb; clear hb HC; dsimp only; obtain ⟨c0, c1, c2, c3, c4, c5, c6, c7, c8, c9, c10, c11, c12, c13, c14, c15⟩ := cells16 BX; clear BX) | ((with_reducible refine wpList_load_if rfl 23 _ rfl w.heap.size rfl 23 _ (0, 0) _ BX Tryz.underlying23 rfl (infoK _ rfl) ?_); simp only [Act.put, List.setIfInBounds_toArray, List.set_cons_succ, List.set_cons_zero]))
    go_ret
    exact ⟨ret_bool (by rw [hR.out]; rfl), HB.out⟩
  · go_enter Tryz.func5, Tryz.ntmps5
    go_wp2_with (first | (go_at_call 21; refine (HC.out _).mono ?_; rintro e w1 ⟨rfl, hb⟩; replace BX := keepB BX hb; replace HB := thenH HB hb; clear hb HC; dsimp only; obtain ⟨c0, c1, c2, c3, c4, c5, c6, c7, c8, c9, c10, c11, c12, c13, c14, c15⟩ := cells16 BX; clear BX) | ((with_reducible refine wpList_load_if rfl 23 _ rfl w.heap.size rfl 23 _ (0, 0) _ BX Tryz.underlying23 rfl (infoK _ rfl) ?_); simp only [Act.put, List.setIfInBounds_toArray, List.set_cons_succ, List.set_cons_zero]) | (go_at_call 22; refine (in_c _ _ _ _).mono ?_; rintro e w' ⟨rfl, rfl⟩; dsimp only) | (go_at_call 24; refine (step_c _ _ _ _ (by decide) _).mono ?_; rintro e w' ⟨rfl, rfl⟩; dsimp only) | (go_at_call 23; refine (refMask_c _ _ _ _).mono ?_; rintro e w' ⟨rfl, rfl⟩; dsimp only) | (go_at_call 25; refine (rsys_c _ _).mono ?_; rintro e w' ⟨rfl, hb⟩; replace HB : Hid (Below w.heap.size w w') := HB.out.trans (hb.mono HB.out.size); clear hb; dsimp only))
    all_goals (go_ret; refine ⟨ret_bool ?_, HB.out⟩; rw [hR.out]; first | rfl | (clear c0 c1 c2 c3 c4 c5 c6 c7 c8 c9 c10 c11 c12 c13 c14 c15 HB hR; first | (simp [*]; done) | (simp [*]; intros; rfl)))
set_option maxRecDepth 4000 in
set_option maxHeartbeats 4000000 in
theorem rr14 (S D N M A I J U F C Y : Int) (G X O L : Bool) (w : World) :
    Calls Tryz.prog 5 #[(⟨14, S, D, N, M, A, I, J, U, F, C, Y, G, X, O, L⟩ : Ins).val] w fun e w' => e = .returned (.bool (rightR ⟨14, S, D, N, M, A, I, J, U, F, C, Y, G, X, O, L⟩)) ∧ Below w.heap.size w w' := by
  have BX := heap_alloc_new w (.cells #[vI 14, vI S, vI D, vI N, vI M, vI A, vI I, vI J, vI U, vI F, vI C, vI Y, .bool G, .bool X, .bool O, .bool L] 23)
  have HB := below_alloc w (.cells #[vI 14, vI S, vI D, vI N, vI M, vI A, vI I, vI J, vI U, vI F, vI C, vI Y, .bool G, .bool X, .bool O, .bool L] 23)
  have hR : Hid (rightR ⟨14, S, D, N, M, A, I, J, U, F, C, Y, G, X, O, L⟩ = (clearB ⟨14, S, D, N, M, A, I, J, U, F, C, Y, G, X, O, L⟩ && (stepB I 4 (-1048576) 1048572))) := rfl
  have HC := rclear_c 14 S D N M A I J U F C Y G X O L
  replace HC := show Hid _ from HC
  generalize rightR ⟨14, S, D, N, M, A, I, J, U, F, C, Y, G, X, O, L⟩ = R at hR ⊢
  generalize clearB ⟨14, S, D, N, M, A, I, J, U, F, C, Y, G, X, O, L⟩ = cl at hR HC
  cases cl
  · go_enter Tryz.func5, Tryz.ntmps5
    go_wp2_with (first | (go_at_call 21; refine (HC.out _).mono ?_; rintro e w1 ⟨rfl, hb⟩; replace BX := keepB BX hb; replace HB := thenH HB hb; clear hb HC; dsimp only; obtain ⟨c0, c1, c2, c3, c4, c5, c6, c7, c8, c9, c10, c11, c12, c13, c14, c15⟩ := cells16 BX; clear BX) | ((with_reducible refine wpList_load_if rfl 23 _ rfl w.heap.size rfl 23 _ (0, 0) _ BX Tryz.underlying23 rfl (infoK _ rfl) ?_); simp only [Act.put, List.setIfInBounds_toArray, List.set_cons_succ, List.set_cons_zero]))
    go_ret
    exact ⟨ret_bool (by rw [hR.out]; rfl), HB.out⟩
  · go_enter Tryz.func5, Tryz.ntmps5
    go_wp2_with (first | (go_at_call 21; refine (HC.out _).mono ?_; rintro e w1 ⟨rfl, hb⟩; replace BX := keepB BX hb; replace HB := thenH HB hb; clear hb HC; dsimp only; obtain ⟨c0, c1, c2, c3, c4, c5, c6, c7, c8, c9, c10, c11, c12, c13, c14, c15⟩ := cells16 BX; clear BX) | ((with_reducible refine wpList_load_if rfl 23 _ rfl w.heap.size rfl 23 _ (0, 0) _ BX Tryz.underlying23 rfl (infoK _ rfl) ?_); simp only [Act.put, List.setIfInBounds_toArray, List.set_cons_succ, List.set_cons_zero]) | (go_at_call 22; refine (in_c _ _ _ _).mono ?_; rintro e w' ⟨rfl, rfl⟩; dsimp only) | (go_at_call 24; refine (step_c _ _ _ _ (by decide) _).mono ?_; rintro e w' ⟨rfl, rfl⟩; dsimp only) | (go_at_call 23; refine (refMask_c _ _ _ _).mono ?_; rintro e w' ⟨rfl, rfl⟩; dsimp only) | (go_at_call 25; refine (rsys_c _ _).mono ?_; rintro e w' ⟨rfl, hb⟩; replace HB : Hid (Below w.heap.size w w') := HB.out.trans (hb.mono HB.out.size); clear hb; dsimp only))
    all_goals (go_ret; refine ⟨ret_bool ?_, HB.out⟩; rw [hR.out]; first | rfl | (clear c0 c1 c2 c3 c4 c5 c6 c7 c8 c9 c10 c11 c12 c13 c14 c15 HB hR; first | (simp [*]; done) | (simp [*]; intros; rfl)))
set_option maxRecDepth 4000 in
set_option maxHeartbeats 4000000 in
theorem rr15 (S D N M A I J U F C Y : Int) (G X O L : Bool) (w : World) :
    Calls Tryz.prog 5 #[(⟨15, S, D, N, M, A, I, J, U, F, C, Y, G, X, O, L⟩ : Ins).val] w fun e w' => e = .returned (.bool (rightR ⟨15, S, D, N, M, A, I, J, U, F, C, Y, G, X, O, L⟩)) ∧ Below w.heap.size w w' := by
  have BX := heap_alloc_new w (.cells #[vI 15, vI S, vI D, vI N, vI M, vI A, vI I, vI J, vI U, vI F, vI C, vI Y, .bool G, .bool X, .bool O, .bool L] 23)
  have HB := below_alloc w (.cells #[vI 15, vI S, vI D, vI N, vI M, vI A, vI I, vI J, vI U, vI F, vI C, vI Y, .bool G, .bool X, .bool O, .bool L] 23)
  have hR : Hid (rightR ⟨15, S, D, N, M, A, I, J, U, F, C, Y, G, X, O, L⟩ = (clearB ⟨15, S, D, N, M, A, I, J, U, F, C, Y, G, X, O, L⟩ && (inB U 0 63 && stepB I 4 (-32768) 32764))) := rfl
  have HC := rclear_c 15 S D N M A I J U F C Y G X O L
  replace HC := show Hid _ from HC
  generalize rightR ⟨15, S, D, N, M, A, I, J, U, F, C, Y, G, X, O, L⟩ = R at hR ⊢
  generalize clearB ⟨15, S, D, N, M, A, I, J, U, F, C, Y, G, X, O, L⟩ = cl at hR HC
  cases cl
  · go_enter Tryz.func5, Tryz.ntmps5
    go_wp2_with (first | (go_at_call 21; refine (HC.out _).mono ?_; rintro e w1 ⟨rfl, hb⟩; replace BX := keepB BX hb; replace HB := thenH HB hb; clear hb HC; dsimp only; obtain ⟨c0, c1, c2, c3, c4, c5, c6, c7, c8, c9, c10, c11, c12, c13, c14, c15⟩ := cells16 BX; clear BX) | ((with_reducible refine wpList_load_if rfl 23 _ rfl w.heap.size rfl 23 _ (0, 0) _ BX Tryz.underlying23 rfl (infoK _ rfl) ?_); simp only [Act.put, List.setIfInBounds_toArray, List.set_cons_succ, List.set_cons_zero]))
    go_ret
    exact ⟨ret_bool (by rw [hR.out]; rfl), HB.out⟩
  · go_enter Tryz.func5, Tryz.ntmps5
    go_wp2_with (first | (go_at_call 21; refine (HC.out _).mono ?_; rintro e w1 ⟨rfl, hb⟩; replace BX := keepB BX hb; replace HB := thenH HB hb; clear hb HC; dsimp only; obtain ⟨c0, c1, c2, c3, c4, c5, c6, c7, c8, c9, c10, c11, c12, c13, c14, c15⟩ := cells16 BX; clear BX) | ((with_reducible refine wpList_load_if rfl 23 _ rfl w.heap.size rfl 23 _ (0, 0) _ BX Tryz.underlying23 rfl (infoK _ rfl) ?_); simp only [Act.put, List.setIfInBounds_toArray, List.set_cons_succ, List.set_cons_zero]) | (go_at_call 22; refine (in_c _ _ _ _).mono ?_; rintro e w' ⟨rfl, rfl⟩; dsimp only) | (go_at_call 24; refine (step_c _ _ _ _ (by decide) _).mono ?_; rintro e w' ⟨rfl, rfl⟩; dsimp only) | (go_at_call 23; refine (refMask_c _ _ _ _).mono ?_; rintro e w' ⟨rfl, rfl⟩; dsimp only) | (go_at_call 25; refine (rsys_c _ _).mono ?_; rintro e w' ⟨rfl, hb⟩; replace HB : Hid (Below w.heap.size w w') := HB.out.trans (hb.mono HB.out.size); clear hb; dsimp only))
    all_goals (go_ret; refine ⟨ret_bool ?_, HB.out⟩; rw [hR.out]; first | rfl | (clear c0 c1 c2 c3 c4 c5 c6 c7 c8 c9 c10 c11 c12 c13 c14 c15 HB hR; first | (simp [*]; done) | (simp [*]; intros; rfl)))
set_option maxRecDepth 4000 in
set_option maxHeartbeats 4000000 in
theorem rr16 (S D N M A I J U F C Y : Int) (G X O L : Bool) (w : World) :
    Calls Tryz.prog 5 #[(⟨16, S, D, N, M, A, I, J, U, F, C, Y, G, X, O, L⟩ : Ins).val] w fun e w' => e = .returned (.bool (rightR ⟨16, S, D, N, M, A, I, J, U, F, C, Y, G, X, O, L⟩)) ∧ Below w.heap.size w w' := by
  have BX := heap_alloc_new w (.cells #[vI 16, vI S, vI D, vI N, vI M, vI A, vI I, vI J, vI U, vI F, vI C, vI Y, .bool G, .bool X, .bool O, .bool L] 23)
  have HB := below_alloc w (.cells #[vI 16, vI S, vI D, vI N, vI M, vI A, vI I, vI J, vI U, vI F, vI C, vI Y, .bool G, .bool X, .bool O, .bool L] 23)
  have hR : Hid (rightR ⟨16, S, D, N, M, A, I, J, U, F, C, Y, G, X, O, L⟩ = (clearB ⟨16, S, D, N, M, A, I, J, U, F, C, Y, G, X, O, L⟩ && (inB S 0 2))) := rfl
  have HC := rclear_c 16 S D N M A I J U F C Y G X O L
  replace HC := show Hid _ from HC
  generalize rightR ⟨16, S, D, N, M, A, I, J, U, F, C, Y, G, X, O, L⟩ = R at hR ⊢
  generalize clearB ⟨16, S, D, N, M, A, I, J, U, F, C, Y, G, X, O, L⟩ = cl at hR HC
  cases cl
  · go_enter Tryz.func5, Tryz.ntmps5
    go_wp2_with (first | (go_at_call 21; refine (HC.out _).mono ?_; rintro e w1 ⟨rfl, hb⟩; replace BX := keepB BX hb; replace HB := thenH HB hb; clear hb HC; dsimp only; obtain ⟨c0, c1, c2, c3, c4, c5, c6, c7, c8, c9, c10, c11, c12, c13, c14, c15⟩ := cells16 BX; clear BX) | ((with_reducible refine wpList_load_if rfl 23 _ rfl w.heap.size rfl 23 _ (0, 0) _ BX Tryz.underlying23 rfl (infoK _ rfl) ?_); simp only [Act.put, List.setIfInBounds_toArray, List.set_cons_succ, List.set_cons_zero]))
    go_ret
    exact ⟨ret_bool (by rw [hR.out]; rfl), HB.out⟩
  · go_enter Tryz.func5, Tryz.ntmps5
    go_wp2_with (first | (go_at_call 21; refine (HC.out _).mono ?_; rintro e w1 ⟨rfl, hb⟩; replace BX := keepB BX hb; replace HB := thenH HB hb; clear hb HC; dsimp only; obtain ⟨c0, c1, c2, c3, c4, c5, c6, c7, c8, c9, c10, c11, c12, c13, c14, c15⟩ := cells16 BX; clear BX) | ((with_reducible refine wpList_load_if rfl 23 _ rfl w.heap.size rfl 23 _ (0, 0) _ BX Tryz.underlying23 rfl (infoK _ rfl) ?_); simp only [Act.put, List.setIfInBounds_toArray, List.set_cons_succ, List.set_cons_zero]) | (go_at_call 22; refine (in_c _ _ _ _).mono ?_; rintro e w' ⟨rfl, rfl⟩; dsimp only) | (go_at_call 24; refine (step_c _ _ _ _ (by decide) _).mono ?_; rintro e w' ⟨rfl, rfl⟩; dsimp only) | (go_at_call 23; refine (refMask_c _ _ _ _).mono ?_; rintro e w' ⟨rfl, rfl⟩; dsimp only) | (go_at_call 25; refine (rsys_c _ _).mono ?_; rintro e w' ⟨rfl, hb⟩; replace HB : Hid (Below w.heap.size w w') := HB.out.trans (hb.mono HB.out.size); clear hb; dsimp only))
    all_goals (go_ret; refine ⟨ret_bool ?_, HB.out⟩; rw [hR.out]; first | rfl | (clear c0 c1 c2 c3 c4 c5 c6 c7 c8 c9 c10 c11 c12 c13 c14 c15 HB hR; first | (simp [*]; done) | (simp [*]; intros; rfl)))
set_option maxRecDepth 4000 in
set_option maxHeartbeats 4000000 in
theorem rr17 (S D N M A I J U F C Y : Int) (G X O L : Bool) (w : World) :
    Calls Tryz.prog 5 #[(⟨17, S, D, N, M, A, I, J, U, F, C, Y, G, X, O, L⟩ : Ins).val] w fun e w' => e = .returned (.bool (rightR ⟨17, S, D, N, M, A, I, J, U, F, C, Y, G, X, O, L⟩)) ∧ Below w.heap.size w w' := by
  have BX := heap_alloc_new w (.cells #[vI 17, vI S, vI D, vI N, vI M, vI A, vI I, vI J, vI U, vI F, vI C, vI Y, .bool G, .bool X, .bool O, .bool L] 23)
  have HB := below_alloc w (.cells #[vI 17, vI S, vI D, vI N, vI M, vI A, vI I, vI J, vI U, vI F, vI C, vI Y, .bool G, .bool X, .bool O, .bool L] 23)
  have hR : Hid (rightR ⟨17, S, D, N, M, A, I, J, U, F, C, Y, G, X, O, L⟩ = (clearB ⟨17, S, D, N, M, A, I, J, U, F, C, Y, G, X, O, L⟩ && (stepB I 8 0 32760))) := rfl
  have HC := rclear_c 17 S D N M A I J U F C Y G X O L
  replace HC := show Hid _ from HC
  generalize rightR ⟨17, S, D, N, M, A, I, J, U, F, C, Y, G, X, O, L⟩ = R at hR ⊢
  generalize clearB ⟨17, S, D, N, M, A, I, J, U, F, C, Y, G, X, O, L⟩ = cl at hR HC
  cases cl
  · go_enter Tryz.func5, Tryz.ntmps5
    go_wp2_with (first | (go_at_call 21; refine (HC.out _).mono ?_; rintro e w1 ⟨rfl, hb⟩; replace BX := keepB BX hb; replace HB := thenH HB hb; clear hb HC; dsimp only; obtain ⟨c0, c1, c2, c3, c4, c5, c6, c7, c8, c9, c10, c11, c12, c13, c14, c15⟩ := cells16 BX; clear BX) | ((with_reducible refine wpList_load_if rfl 23 _ rfl w.heap.size rfl 23 _ (0, 0) _ BX Tryz.underlying23 rfl (infoK _ rfl) ?_); simp only [Act.put, List.setIfInBounds_toArray, List.set_cons_succ, List.set_cons_zero]))
    go_ret
    exact ⟨ret_bool (by rw [hR.out]; rfl), HB.out⟩
  · go_enter Tryz.func5, Tryz.ntmps5
    go_wp2_with (first | (go_at_call 21; refine (HC.out _).mono ?_; rintro e w1 ⟨rfl, hb⟩; replace BX := keepB BX hb; replace HB := thenH HB hb; clear hb HC; dsimp only; obtain ⟨c0, c1, c2, c3, c4, c5, c6, c7, c8, c9, c10, c11, c12, c13, c14, c15⟩ := cells16 BX; clear BX) | ((with_reducible refine wpList_load_if rfl 23 _ rfl w.heap.size rfl 23 _ (0, 0) _ BX Tryz.underlying23 rfl (infoK _ rfl) ?_); simp only [Act.put, List.setIfInBounds_toArray, List.set_cons_succ, List.set_cons_zero]) | (go_at_call 22; refine (in_c _ _ _ _).mono ?_; rintro e w' ⟨rfl, rfl⟩; dsimp only) | (go_at_call 24; refine (step_c _ _ _ _ (by decide) _).mono ?_; rintro e w' ⟨rfl, rfl⟩; dsimp only) | (go_at_call 23; refine (refMask_c _ _ _ _).mono ?_; rintro e w' ⟨rfl, rfl⟩; dsimp only) | (go_at_call 25; refine (rsys_c _ _).mono ?_; rintro e w' ⟨rfl, hb⟩; replace HB : Hid (Below w.heap.size w w') := HB.out.trans (hb.mono HB.out.size); clear hb; dsimp only))
    all_goals (go_ret; refine ⟨ret_bool ?_, HB.out⟩; rw [hR.out]; first | rfl | (clear c0 c1 c2 c3 c4 c5 c6 c7 c8 c9 c10 c11 c12 c13 c14 c15 HB hR; first | (simp [*]; done) | (simp [*]; intros; rfl)))
set_option maxRecDepth 4000 in
set_option maxHeartbeats 4000000 in
theorem rr18 (S D N M A I J U F C Y : Int) (G X O L : Bool) (w : World) :
    Calls Tryz.prog 5 #[(⟨18, S, D, N, M, A, I, J, U, F, C, Y, G, X, O, L⟩ : Ins).val] w fun e w' => e = .returned (.bool (rightR ⟨18, S, D, N, M, A, I, J, U, F, C, Y, G, X, O, L⟩)) ∧ Below w.heap.size w w' := by
  have BX := heap_alloc_new w (.cells #[vI 18, vI S, vI D, vI N, vI M, vI A, vI I, vI J, vI U, vI F, vI C, vI Y, .bool G, .bool X, .bool O, .bool L] 23)
  have HB := below_alloc w (.cells #[vI 18, vI S, vI D, vI N, vI M, vI A, vI I, vI J, vI U, vI F, vI C, vI Y, .bool G, .bool X, .bool O, .bool L] 23)
  have hR : Hid (rightR ⟨18, S, D, N, M, A, I, J, U, F, C, Y, G, X, O, L⟩ = (clearB ⟨18, S, D, N, M, A, I, J, U, F, C, Y, G, X, O, L⟩ && (stepB I 8 0 32760))) := rfl
  have HC := rclear_c 18 S D N M A I J U F C Y G X O L
  replace HC := show Hid _ from HC
  generalize rightR ⟨18, S, D, N, M, A, I, J, U, F, C, Y, G, X, O, L⟩ = R at hR ⊢
  generalize clearB ⟨18, S, D, N, M, A, I, J, U, F, C, Y, G, X, O, L⟩ = cl at hR HC
  cases cl
  · go_enter Tryz.func5, Tryz.ntmps5
    go_wp2_with (first | (go_at_call 21; refine (HC.out _).mono ?_; rintro e w1 ⟨rfl, hb⟩; replace BX := keepB BX hb; replace HB := thenH HB hb; clear hb HC; dsimp only; obtain ⟨c0, c1, c2, c3, c4, c5, c6, c7, c8, c9, c10, c11, c12, c13, c14, c15⟩ := cells16 BX; clear BX) | ((with_reducible refine wpList_load_if rfl 23 _ rfl w.heap.size rfl 23 _ (0, 0) _ BX Tryz.underlying23 rfl (infoK _ rfl) ?_); simp only [Act.put, List.setIfInBounds_toArray, List.set_cons_succ, List.set_cons_zero]))
    go_ret
    exact ⟨ret_bool (by rw [hR.out]; rfl), HB.out⟩
  · go_enter Tryz.func5, Tryz.ntmps5
    go_wp2_with (first | (go_at_call 21; refine (HC.out _).mono ?_; rintro e w1 ⟨rfl, hb⟩; replace BX := keepB BX hb; replace HB := thenH HB hb; clear hb HC; dsimp only; obtain ⟨c0, c1, c2, c3, c4, c5, c6, c7, c8, c9, c10, c11, c12, c13, c14, c15⟩ := cells16 BX; clear BX) | ((with_reducible refine wpList_load_if rfl 23 _ rfl w.heap.size rfl 23 _ (0, 0) _ BX Tryz.underlying23 rfl (infoK _ rfl) ?_); simp only [Act.put, List.setIfInBounds_toArray, List.set_cons_succ, List.set_cons_zero]) | (go_at_call 22; refine (in_c _ _ _ _).mono ?_; rintro e w' ⟨rfl, rfl⟩; dsimp only) | (go_at_call 24; refine (step_c _ _ _ _ (by decide) _).mono ?_; rintro e w' ⟨rfl, rfl⟩; dsimp only) | (go_at_call 23; refine (refMask_c _ _ _ _).mono ?_; rintro e w' ⟨rfl, rfl⟩; dsimp only) | (go_at_call 25; refine (rsys_c _ _).mono ?_; rintro e w' ⟨rfl, hb⟩; replace HB : Hid (Below w.heap.size w w') := HB.out.trans (hb.mono HB.out.size); clear hb; dsimp only))
    all_goals (go_ret; refine ⟨ret_bool ?_, HB.out⟩; rw [hR.out]; first | rfl | (clear c0 c1 c2 c3 c4 c5 c6 c7 c8 c9 c10 c11 c12 c13 c14 c15 HB hR; first | (simp [*]; done) | (simp [*]; intros; rfl)))
set_option maxRecDepth 4000 in
set_option maxHeartbeats 4000000 in
theorem rr19 (S D N M A I J U F C Y : Int) (G X O L : Bool) (w : World) :
    Calls Tryz.prog 5 #[(⟨19, S, D, N, M, A, I, J, U, F, C, Y, G, X, O, L⟩ : Ins).val] w fun e w' => e = .returned (.bool (rightR ⟨19, S, D, N, M, A, I, J, U, F, C, Y, G, X, O, L⟩)) ∧ Below w.heap.size w w' := by
  have BX := heap_alloc_new w (.cells #[vI 19, vI S, vI D, vI N, vI M, vI A, vI I, vI J, vI U, vI F, vI C, vI Y, .bool G, .bool X, .bool O, .bool L] 23)
  have HB := below_alloc w (.cells #[vI 19, vI S, vI D, vI N, vI M, vI A, vI I, vI J, vI U, vI F, vI C, vI Y, .bool G, .bool X, .bool O, .bool L] 23)
  have hR : Hid (rightR ⟨19, S, D, N, M, A, I, J, U, F, C, Y, G, X, O, L⟩ = (clearB ⟨19, S, D, N, M, A, I, J, U, F, C, Y, G, X, O, L⟩ && ((U == 0 || U == 3)))) := rfl
  have HC := rclear_c 19 S D N M A I J U F C Y G X O L
  replace HC := show Hid _ from HC
  generalize rightR ⟨19, S, D, N, M, A, I, J, U, F, C, Y, G, X, O, L⟩ = R at hR ⊢
  generalize clearB ⟨19, S, D, N, M, A, I, J, U, F, C, Y, G, X, O, L⟩ = cl at hR HC
  cases cl
  · go_enter Tryz.func5, Tryz.ntmps5
    go_wp2_with (first | (go_at_call 21; refine (HC.out _).mono ?_; rintro e w1 ⟨rfl, hb⟩; replace BX := keepB BX hb; replace HB := thenH HB hb; clear hb HC; dsimp only; obtain ⟨c0, c1, c2, c3, c4, c5, c6, c7, c8, c9, c10, c11, c12, c13, c14, c15⟩ := cells16 BX; clear BX) | ((with_reducible refine wpList_load_if rfl 23 _ rfl w.heap.size rfl 23 _ (0, 0) _ BX Tryz.underlying23 rfl (infoK _ rfl) ?_); simp only [Act.put, List.setIfInBounds_toArray, List.set_cons_succ, List.set_cons_zero]))
    go_ret
    exact ⟨ret_bool (by rw [hR.out]; rfl), HB.out⟩
  · go_enter Tryz.func5, Tryz.ntmps5
    go_wp2_with (first | (go_at_call 21; refine (HC.out _).mono ?_; rintro e w1 ⟨rfl, hb⟩; replace BX := keepB BX hb; replace HB := thenH HB hb; clear hb HC; dsimp only; obtain ⟨c0, c1, c2, c3, c4, c5, c6, c7, c8, c9, c10, c11, c12, c13, c14, c15⟩ := cells16 BX; clear BX) | ((with_reducible refine wpList_load_if rfl 23 _ rfl w.heap.size rfl 23 _ (0, 0) _ BX Tryz.underlying23 rfl (infoK _ rfl) ?_); simp only [Act.put, List.setIfInBounds_toArray, List.set_cons_succ, List.set_cons_zero]) | (go_at_call 22; refine (in_c _ _ _ _).mono ?_; rintro e w' ⟨rfl, rfl⟩; dsimp only) | (go_at_call 24; refine (step_c _ _ _ _ (by decide) _).mono ?_; rintro e w' ⟨rfl, rfl⟩; dsimp only) | (go_at_call 23; refine (refMask_c _ _ _ _).mono ?_; rintro e w' ⟨rfl, rfl⟩; dsimp only) | (go_at_call 25; refine (rsys_c _ _).mono ?_; rintro e w' ⟨rfl, hb⟩; replace HB : Hid (Below w.heap.size w w') := HB.out.trans (hb.mono HB.out.size); clear hb; dsimp only))
    all_goals (go_ret; refine ⟨ret_bool ?_, HB.out⟩; rw [hR.out]; first | rfl | (clear c0 c1 c2 c3 c4 c5 c6 c7 c8 c9 c10 c11 c12 c13 c14 c15 HB hR; first | (simp [*]; done) | (simp [*]; intros; rfl)))
end Go.Proofs.YtjmdgfimmjodjaaGreatDoor
