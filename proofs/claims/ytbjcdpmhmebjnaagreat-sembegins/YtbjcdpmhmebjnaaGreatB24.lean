/- Encode of the document's own answer to chapter 3: contracts, an Op each. -/
import Derived.Test.YtbjcdpmhmebjnaaGreatB22
namespace Go.Proofs.YtbjcdpmhmebjnaaGreat
open Go.RowKit Go.Rel
set_option linter.unusedVariables false
set_option linter.unusedSimpArgs false

set_option maxRecDepth 4000 in
set_option maxHeartbeats 8000000 in
theorem en17 (S D N M A I J U F C Y : Int) (X O L : Bool) (w : World) (hr : rightB ⟨17, S, D, N, M, A, I, J, U, F, C, Y, false, X, O, L⟩ = true) :
    Calls Tryz.prog 47 #[(⟨17, S, D, N, M, A, I, J, U, F, C, Y, false, X, O, L⟩ : Ins).val] w fun e w' => e = .returned (.tuple #[.int .u32 (encV ⟨17, S, D, N, M, A, I, J, U, F, C, Y, false, X, O, L⟩).1, .bool true]) ∧ Below w.heap.size w w' := by
  have R := rightF hr
  obtain ⟨x0, y0, z0⟩ := holds_of (lo := 0) (hi := 32760) (st := 8) (n := I) R.imm
  clear z0
  obtain rfl : S = 0 := zero_of R.sub
  have hE := (wd16 0 D N M A I J U F C Y false X O L hr).1
  have nn0 : I.tdiv 8 = I / 8 := Int.tdiv_eq_ediv_of_nonneg (by omega)
  rw [nn0] at hE
  clear nn0
  replace hE := show Hid _ from hE
  have HC := rright_c ⟨17, 0, D, N, M, A, I, J, U, F, C, Y, false, X, O, L⟩
  rw [hr] at HC
  replace HC := show Hid _ from HC
  clear R hr
  have BX := heap_alloc_new w (.cells #[vI 17, vI 0, vI D, vI N, vI M, vI A, vI I, vI J, vI U, vI F, vI C, vI Y, .bool false, .bool X, .bool O, .bool L] 47)
  have HB := below_alloc w (.cells #[vI 17, vI 0, vI D, vI N, vI M, vI A, vI I, vI J, vI U, vI F, vI C, vI Y, .bool false, .bool X, .bool O, .bool L] 47)
  have b0 : 0 ≤ lowI D 5 ∧ lowI D 5 < 32 := lowI_in _ 5
  have m0 : Hid (lowI D 5 = D % 32) := lowI_mod D 5 (by decide)
  have b1 : 0 ≤ lowI N 5 ∧ lowI N 5 < 32 := lowI_in _ 5
  have m1 : Hid (lowI N 5 = N % 32) := lowI_mod N 5 (by decide)
  have b2 : 0 ≤ lowI M 5 ∧ lowI M 5 < 32 := lowI_in _ 5
  have m2 : Hid (lowI M 5 = M % 32) := lowI_mod M 5 (by decide)
  have b3 : 0 ≤ lowI (I / 8) 12 ∧ lowI (I / 8) 12 < 4096 := lowI_in _ 12
  have m3 : Hid (lowI (I / 8) 12 = (I / 8) % 4096) := lowI_mod (I / 8) 12 (by decide)
  have v0 := when_in X (x := 1073741824) (by decide)
  have e0 : whenI false 536870912 = 0 := rfl
  skip
  go_enter Tryz.func47, Tryz.ntmps47
  go_wp2_with (first | (go_at_call 119; refine (HC.out _).mono ?_; rintro e w1 ⟨rfl, hb⟩; replace BX := keepB BX hb; replace HB := thenH HB hb; clear hb HC; dsimp only; obtain ⟨c0, c1, c2, c3, c4, c5, c6, c7, c8, c9, c10, c11, c12, c13, c14, c15⟩ := cells16 BX) | ((with_reducible refine wpList_load_if rfl 47 _ rfl w.heap.size rfl 47 _ (0, 0) _ BX Tryz.underlying47 rfl (infoK _ rfl) ?_); simp only [Act.put, List.setIfInBounds_toArray, List.set_cons_succ, List.set_cons_zero]) | (go_at_call 120; refine (lowI_c _ _ (by decide) (by decide) _).mono ?_; rintro e w' ⟨rfl, rfl⟩; dsimp only))
  go_quiet ((first | (go_at_call 120; exact Calls.quiet_of_same (lowI_c _ _ (by decide) (by decide) _)) | (go_at_call 121; exact Calls.quiet_of_same (whenI_c _ _ _))))
  replace HB : Hid (Below w.heap.size w (w'.drewN nq)) := below_drewN HB.out nq
  replace BX := drewB BX nq
  clear c0 c1 c2 c3 c4 c5 c6 c7 c8 c9 c10 c11 c12 c13 c14 c15
  obtain ⟨c0, c1, c2, c3, c4, c5, c6, c7, c8, c9, c10, c11, c12, c13, c14, c15⟩ := cells16 BX
  generalize w'.drewN nq = w2 at *
  go_wp2_with (first | (go_at_call 122; refine (ac17 _ _ _ _ _ _ _ _ _ _ _ _ _ _ _ _ _ _ _ (by omega) (by omega) (by omega) (by omega) (by omega) (by omega) (by omega) (by omega) (by omega) (by omega) _).mono ?_; rintro e w3 ⟨rfl, hb⟩; replace HB : Hid (Below w.heap.size w w3) := HB.out.trans (hb.mono HB.out.size); clear hb; dsimp only) | ((with_reducible refine wpList_load_if rfl 47 _ rfl w.heap.size rfl 47 _ (0, 0) _ BX Tryz.underlying47 rfl (infoK _ rfl) ?_); simp only [Act.put, List.setIfInBounds_toArray, List.set_cons_succ, List.set_cons_zero]))
  go_ret2
  refine ⟨ret_tw ?_, HB.out⟩
  rw [hE.out]
  clear hE HB c0 c1 c2 c3 c4 c5 c6 c7 c8 c9 c10 c11 c12 c13 c14 c15
  replace m0 := m0.out
  replace m1 := m1.out
  replace m2 := m2.out
  replace m3 := m3.out
  omega
set_option maxRecDepth 4000 in
set_option maxHeartbeats 8000000 in
theorem en18 (S D N M A I J U F C Y : Int) (X O L : Bool) (w : World) (hr : rightB ⟨18, S, D, N, M, A, I, J, U, F, C, Y, false, X, O, L⟩ = true) :
    Calls Tryz.prog 47 #[(⟨18, S, D, N, M, A, I, J, U, F, C, Y, false, X, O, L⟩ : Ins).val] w fun e w' => e = .returned (.tuple #[.int .u32 (encV ⟨18, S, D, N, M, A, I, J, U, F, C, Y, false, X, O, L⟩).1, .bool true]) ∧ Below w.heap.size w w' := by
  have R := rightF hr
  obtain ⟨x0, y0, z0⟩ := holds_of (lo := 0) (hi := 32760) (st := 8) (n := I) R.imm
  clear z0
  obtain rfl : S = 0 := zero_of R.sub
  have hE := (wd17 0 D N M A I J U F C Y false X O L hr).1
  have nn0 : I.tdiv 8 = I / 8 := Int.tdiv_eq_ediv_of_nonneg (by omega)
  rw [nn0] at hE
  clear nn0
  replace hE := show Hid _ from hE
  have HC := rright_c ⟨18, 0, D, N, M, A, I, J, U, F, C, Y, false, X, O, L⟩
  rw [hr] at HC
  replace HC := show Hid _ from HC
  clear R hr
  have BX := heap_alloc_new w (.cells #[vI 18, vI 0, vI D, vI N, vI M, vI A, vI I, vI J, vI U, vI F, vI C, vI Y, .bool false, .bool X, .bool O, .bool L] 47)
  have HB := below_alloc w (.cells #[vI 18, vI 0, vI D, vI N, vI M, vI A, vI I, vI J, vI U, vI F, vI C, vI Y, .bool false, .bool X, .bool O, .bool L] 47)
  have b0 : 0 ≤ lowI D 5 ∧ lowI D 5 < 32 := lowI_in _ 5
  have m0 : Hid (lowI D 5 = D % 32) := lowI_mod D 5 (by decide)
  have b1 : 0 ≤ lowI N 5 ∧ lowI N 5 < 32 := lowI_in _ 5
  have m1 : Hid (lowI N 5 = N % 32) := lowI_mod N 5 (by decide)
  have b2 : 0 ≤ lowI M 5 ∧ lowI M 5 < 32 := lowI_in _ 5
  have m2 : Hid (lowI M 5 = M % 32) := lowI_mod M 5 (by decide)
  have b3 : 0 ≤ lowI (I / 8) 12 ∧ lowI (I / 8) 12 < 4096 := lowI_in _ 12
  have m3 : Hid (lowI (I / 8) 12 = (I / 8) % 4096) := lowI_mod (I / 8) 12 (by decide)
  have v0 := when_in X (x := 1073741824) (by decide)
  have e0 : whenI false 536870912 = 0 := rfl
  skip
  go_enter Tryz.func47, Tryz.ntmps47
  go_wp2_with (first | (go_at_call 119; refine (HC.out _).mono ?_; rintro e w1 ⟨rfl, hb⟩; replace BX := keepB BX hb; replace HB := thenH HB hb; clear hb HC; dsimp only; obtain ⟨c0, c1, c2, c3, c4, c5, c6, c7, c8, c9, c10, c11, c12, c13, c14, c15⟩ := cells16 BX) | ((with_reducible refine wpList_load_if rfl 47 _ rfl w.heap.size rfl 47 _ (0, 0) _ BX Tryz.underlying47 rfl (infoK _ rfl) ?_); simp only [Act.put, List.setIfInBounds_toArray, List.set_cons_succ, List.set_cons_zero]) | (go_at_call 120; refine (lowI_c _ _ (by decide) (by decide) _).mono ?_; rintro e w' ⟨rfl, rfl⟩; dsimp only))
  go_quiet ((first | (go_at_call 120; exact Calls.quiet_of_same (lowI_c _ _ (by decide) (by decide) _)) | (go_at_call 121; exact Calls.quiet_of_same (whenI_c _ _ _))))
  replace HB : Hid (Below w.heap.size w (w'.drewN nq)) := below_drewN HB.out nq
  replace BX := drewB BX nq
  clear c0 c1 c2 c3 c4 c5 c6 c7 c8 c9 c10 c11 c12 c13 c14 c15
  obtain ⟨c0, c1, c2, c3, c4, c5, c6, c7, c8, c9, c10, c11, c12, c13, c14, c15⟩ := cells16 BX
  generalize w'.drewN nq = w2 at *
  go_wp2_with (first | (go_at_call 122; refine (ac18 _ _ _ _ _ _ _ _ _ _ _ _ _ _ _ _ _ _ _ (by omega) (by omega) (by omega) (by omega) (by omega) (by omega) (by omega) (by omega) (by omega) (by omega) _).mono ?_; rintro e w3 ⟨rfl, hb⟩; replace HB : Hid (Below w.heap.size w w3) := HB.out.trans (hb.mono HB.out.size); clear hb; dsimp only) | ((with_reducible refine wpList_load_if rfl 47 _ rfl w.heap.size rfl 47 _ (0, 0) _ BX Tryz.underlying47 rfl (infoK _ rfl) ?_); simp only [Act.put, List.setIfInBounds_toArray, List.set_cons_succ, List.set_cons_zero]))
  go_ret2
  refine ⟨ret_tw ?_, HB.out⟩
  rw [hE.out]
  clear hE HB c0 c1 c2 c3 c4 c5 c6 c7 c8 c9 c10 c11 c12 c13 c14 c15
  replace m0 := m0.out
  replace m1 := m1.out
  replace m2 := m2.out
  replace m3 := m3.out
  omega
set_option maxRecDepth 4000 in
set_option maxHeartbeats 8000000 in
theorem en19 (S D N M A I J U F C Y : Int) (X O L : Bool) (w : World) (hr : rightB ⟨19, S, D, N, M, A, I, J, U, F, C, Y, false, X, O, L⟩ = true) :
    Calls Tryz.prog 47 #[(⟨19, S, D, N, M, A, I, J, U, F, C, Y, false, X, O, L⟩ : Ins).val] w fun e w' => e = .returned (.tuple #[.int .u32 (encV ⟨19, S, D, N, M, A, I, J, U, F, C, Y, false, X, O, L⟩).1, .bool true]) ∧ Below w.heap.size w w' := by
  have R := rightF hr
  obtain ⟨x0, y0, z0⟩ := holds_of (lo := 0) (hi := 3) (st := 3) (n := U) R.amount
  replace z0 := show Hid _ from z0
  obtain rfl : S = 0 := zero_of R.sub
  have hE := (wd18 0 D N M A I J U F C Y false X O L hr).1
  have hw : whenI (U == 3) 4096 = U.tdiv 3 % 2 * 4096 := when_three z0.out (by omega) (by omega)
  replace hE := show Hid _ from hE
  have HC := rright_c ⟨19, 0, D, N, M, A, I, J, U, F, C, Y, false, X, O, L⟩
  rw [hr] at HC
  replace HC := show Hid _ from HC
  clear R hr
  have BX := heap_alloc_new w (.cells #[vI 19, vI 0, vI D, vI N, vI M, vI A, vI I, vI J, vI U, vI F, vI C, vI Y, .bool false, .bool X, .bool O, .bool L] 47)
  have HB := below_alloc w (.cells #[vI 19, vI 0, vI D, vI N, vI M, vI A, vI I, vI J, vI U, vI F, vI C, vI Y, .bool false, .bool X, .bool O, .bool L] 47)
  have b0 : 0 ≤ lowI D 5 ∧ lowI D 5 < 32 := lowI_in _ 5
  have m0 : Hid (lowI D 5 = D % 32) := lowI_mod D 5 (by decide)
  have b1 : 0 ≤ lowI N 5 ∧ lowI N 5 < 32 := lowI_in _ 5
  have m1 : Hid (lowI N 5 = N % 32) := lowI_mod N 5 (by decide)
  have b2 : 0 ≤ lowI M 5 ∧ lowI M 5 < 32 := lowI_in _ 5
  have m2 : Hid (lowI M 5 = M % 32) := lowI_mod M 5 (by decide)
  have v0 := when_in X (x := 1073741824) (by decide)
  have v1 := when_in (U == 3) (x := 4096) (by decide)
  have e0 : whenI false 536870912 = 0 := rfl
  skip
  go_enter Tryz.func47, Tryz.ntmps47
  go_wp2_with (first | (go_at_call 119; refine (HC.out _).mono ?_; rintro e w1 ⟨rfl, hb⟩; replace BX := keepB BX hb; replace HB := thenH HB hb; clear hb HC; dsimp only; obtain ⟨c0, c1, c2, c3, c4, c5, c6, c7, c8, c9, c10, c11, c12, c13, c14, c15⟩ := cells16 BX) | ((with_reducible refine wpList_load_if rfl 47 _ rfl w.heap.size rfl 47 _ (0, 0) _ BX Tryz.underlying47 rfl (infoK _ rfl) ?_); simp only [Act.put, List.setIfInBounds_toArray, List.set_cons_succ, List.set_cons_zero]) | (go_at_call 120; refine (lowI_c _ _ (by decide) (by decide) _).mono ?_; rintro e w' ⟨rfl, rfl⟩; dsimp only))
  go_quiet ((first | (go_at_call 120; exact Calls.quiet_of_same (lowI_c _ _ (by decide) (by decide) _)) | (go_at_call 121; exact Calls.quiet_of_same (whenI_c _ _ _))))
  replace HB : Hid (Below w.heap.size w (w'.drewN nq)) := below_drewN HB.out nq
  replace BX := drewB BX nq
  clear c0 c1 c2 c3 c4 c5 c6 c7 c8 c9 c10 c11 c12 c13 c14 c15
  obtain ⟨c0, c1, c2, c3, c4, c5, c6, c7, c8, c9, c10, c11, c12, c13, c14, c15⟩ := cells16 BX
  generalize w'.drewN nq = w2 at *
  go_wp2_with (first | (go_at_call 122; refine (ac19 _ _ _ _ _ _ _ _ _ _ _ _ _ _ _ _ _ _ _ (by omega) (by omega) (by omega) (by omega) (by omega) (by omega) (by omega) (by omega) (by omega) (by omega) _).mono ?_; rintro e w3 ⟨rfl, hb⟩; replace HB : Hid (Below w.heap.size w w3) := HB.out.trans (hb.mono HB.out.size); clear hb; dsimp only) | ((with_reducible refine wpList_load_if rfl 47 _ rfl w.heap.size rfl 47 _ (0, 0) _ BX Tryz.underlying47 rfl (infoK _ rfl) ?_); simp only [Act.put, List.setIfInBounds_toArray, List.set_cons_succ, List.set_cons_zero]))
  go_ret2
  refine ⟨ret_tw ?_, HB.out⟩
  rw [hE.out]
  clear hE HB c0 c1 c2 c3 c4 c5 c6 c7 c8 c9 c10 c11 c12 c13 c14 c15
  replace m0 := m0.out
  replace m1 := m1.out
  replace m2 := m2.out
  omega
set_option maxRecDepth 4000 in
set_option maxHeartbeats 8000000 in
theorem en20 (S D N M A I J U F C Y : Int) (X O L : Bool) (w : World) (hr : rightB ⟨20, S, D, N, M, A, I, J, U, F, C, Y, false, X, O, L⟩ = true) :
    Calls Tryz.prog 47 #[(⟨20, S, D, N, M, A, I, J, U, F, C, Y, false, X, O, L⟩ : Ins).val] w fun e w' => e = .returned (.tuple #[.int .u32 (encV ⟨20, S, D, N, M, A, I, J, U, F, C, Y, false, X, O, L⟩).1, .bool true]) ∧ Below w.heap.size w w' := by
  have R := rightF hr
  obtain ⟨x0, y0, z0⟩ := holds_of (lo := 0) (hi := 3) (st := 3) (n := U) R.amount
  replace z0 := show Hid _ from z0
  obtain rfl : S = 0 := zero_of R.sub
  have hE := (wd19 0 D N M A I J U F C Y false X O L hr).1
  have hw : whenI (U == 3) 4096 = U.tdiv 3 % 2 * 4096 := when_three z0.out (by omega) (by omega)
  replace hE := show Hid _ from hE
  have HC := rright_c ⟨20, 0, D, N, M, A, I, J, U, F, C, Y, false, X, O, L⟩
  rw [hr] at HC
  replace HC := show Hid _ from HC
  clear R hr
  have BX := heap_alloc_new w (.cells #[vI 20, vI 0, vI D, vI N, vI M, vI A, vI I, vI J, vI U, vI F, vI C, vI Y, .bool false, .bool X, .bool O, .bool L] 47)
  have HB := below_alloc w (.cells #[vI 20, vI 0, vI D, vI N, vI M, vI A, vI I, vI J, vI U, vI F, vI C, vI Y, .bool false, .bool X, .bool O, .bool L] 47)
  have b0 : 0 ≤ lowI D 5 ∧ lowI D 5 < 32 := lowI_in _ 5
  have m0 : Hid (lowI D 5 = D % 32) := lowI_mod D 5 (by decide)
  have b1 : 0 ≤ lowI N 5 ∧ lowI N 5 < 32 := lowI_in _ 5
  have m1 : Hid (lowI N 5 = N % 32) := lowI_mod N 5 (by decide)
  have b2 : 0 ≤ lowI M 5 ∧ lowI M 5 < 32 := lowI_in _ 5
  have m2 : Hid (lowI M 5 = M % 32) := lowI_mod M 5 (by decide)
  have v0 := when_in X (x := 1073741824) (by decide)
  have v1 := when_in (U == 3) (x := 4096) (by decide)
  have e0 : whenI false 536870912 = 0 := rfl
  skip
  go_enter Tryz.func47, Tryz.ntmps47
  go_wp2_with (first | (go_at_call 119; refine (HC.out _).mono ?_; rintro e w1 ⟨rfl, hb⟩; replace BX := keepB BX hb; replace HB := thenH HB hb; clear hb HC; dsimp only; obtain ⟨c0, c1, c2, c3, c4, c5, c6, c7, c8, c9, c10, c11, c12, c13, c14, c15⟩ := cells16 BX) | ((with_reducible refine wpList_load_if rfl 47 _ rfl w.heap.size rfl 47 _ (0, 0) _ BX Tryz.underlying47 rfl (infoK _ rfl) ?_); simp only [Act.put, List.setIfInBounds_toArray, List.set_cons_succ, List.set_cons_zero]) | (go_at_call 120; refine (lowI_c _ _ (by decide) (by decide) _).mono ?_; rintro e w' ⟨rfl, rfl⟩; dsimp only))
  go_quiet ((first | (go_at_call 120; exact Calls.quiet_of_same (lowI_c _ _ (by decide) (by decide) _)) | (go_at_call 121; exact Calls.quiet_of_same (whenI_c _ _ _))))
  replace HB : Hid (Below w.heap.size w (w'.drewN nq)) := below_drewN HB.out nq
  replace BX := drewB BX nq
  clear c0 c1 c2 c3 c4 c5 c6 c7 c8 c9 c10 c11 c12 c13 c14 c15
  obtain ⟨c0, c1, c2, c3, c4, c5, c6, c7, c8, c9, c10, c11, c12, c13, c14, c15⟩ := cells16 BX
  generalize w'.drewN nq = w2 at *
  go_wp2_with (first | (go_at_call 122; refine (ac20 _ _ _ _ _ _ _ _ _ _ _ _ _ _ _ _ _ _ _ (by omega) (by omega) (by omega) (by omega) (by omega) (by omega) (by omega) (by omega) (by omega) (by omega) _).mono ?_; rintro e w3 ⟨rfl, hb⟩; replace HB : Hid (Below w.heap.size w w3) := HB.out.trans (hb.mono HB.out.size); clear hb; dsimp only) | ((with_reducible refine wpList_load_if rfl 47 _ rfl w.heap.size rfl 47 _ (0, 0) _ BX Tryz.underlying47 rfl (infoK _ rfl) ?_); simp only [Act.put, List.setIfInBounds_toArray, List.set_cons_succ, List.set_cons_zero]))
  go_ret2
  refine ⟨ret_tw ?_, HB.out⟩
  rw [hE.out]
  clear hE HB c0 c1 c2 c3 c4 c5 c6 c7 c8 c9 c10 c11 c12 c13 c14 c15
  replace m0 := m0.out
  replace m1 := m1.out
  replace m2 := m2.out
  omega
set_option maxRecDepth 4000 in
set_option maxHeartbeats 8000000 in
theorem en21_0 (D N M A I J U F C Y : Int) (X O L : Bool) (w : World) (hr : rightB ⟨21, 0, D, N, M, A, I, J, U, F, C, Y, false, X, O, L⟩ = true) :
    Calls Tryz.prog 47 #[(⟨21, 0, D, N, M, A, I, J, U, F, C, Y, false, X, O, L⟩ : Ins).val] w fun e w' => e = .returned (.tuple #[.int .u32 (encV ⟨21, 0, D, N, M, A, I, J, U, F, C, Y, false, X, O, L⟩).1, .bool true]) ∧ Below w.heap.size w w' := by
  have R := rightF hr
  have hE := (wd20 0 D N M A I J U F C Y false X O L hr).1
  replace hE := show Hid _ from hE
  have HC := rright_c ⟨21, 0, D, N, M, A, I, J, U, F, C, Y, false, X, O, L⟩
  rw [hr] at HC
  replace HC := show Hid _ from HC
  clear R hr
  have BX := heap_alloc_new w (.cells #[vI 21, vI 0, vI D, vI N, vI M, vI A, vI I, vI J, vI U, vI F, vI C, vI Y, .bool false, .bool X, .bool O, .bool L] 47)
  have HB := below_alloc w (.cells #[vI 21, vI 0, vI D, vI N, vI M, vI A, vI I, vI J, vI U, vI F, vI C, vI Y, .bool false, .bool X, .bool O, .bool L] 47)
  have b0 : 0 ≤ lowI D 5 ∧ lowI D 5 < 32 := lowI_in _ 5
  have m0 : Hid (lowI D 5 = D % 32) := lowI_mod D 5 (by decide)
  have b1 : 0 ≤ lowI N 5 ∧ lowI N 5 < 32 := lowI_in _ 5
  have m1 : Hid (lowI N 5 = N % 32) := lowI_mod N 5 (by decide)
  have b2 : 0 ≤ lowI M 5 ∧ lowI M 5 < 32 := lowI_in _ 5
  have m2 : Hid (lowI M 5 = M % 32) := lowI_mod M 5 (by decide)
  have v0 := when_in X (x := 1073741824) (by decide)
  have e0 : whenI false 536870912 = 0 := rfl
  skip
  go_enter Tryz.func47, Tryz.ntmps47
  go_wp2_with (first | (go_at_call 119; refine (HC.out _).mono ?_; rintro e w1 ⟨rfl, hb⟩; replace BX := keepB BX hb; replace HB := thenH HB hb; clear hb HC; dsimp only; obtain ⟨c0, c1, c2, c3, c4, c5, c6, c7, c8, c9, c10, c11, c12, c13, c14, c15⟩ := cells16 BX) | ((with_reducible refine wpList_load_if rfl 47 _ rfl w.heap.size rfl 47 _ (0, 0) _ BX Tryz.underlying47 rfl (infoK _ rfl) ?_); simp only [Act.put, List.setIfInBounds_toArray, List.set_cons_succ, List.set_cons_zero]) | (go_at_call 120; refine (lowI_c _ _ (by decide) (by decide) _).mono ?_; rintro e w' ⟨rfl, rfl⟩; dsimp only))
  go_quiet ((first | (go_at_call 120; exact Calls.quiet_of_same (lowI_c _ _ (by decide) (by decide) _)) | (go_at_call 121; exact Calls.quiet_of_same (whenI_c _ _ _))))
  replace HB : Hid (Below w.heap.size w (w'.drewN nq)) := below_drewN HB.out nq
  replace BX := drewB BX nq
  clear c0 c1 c2 c3 c4 c5 c6 c7 c8 c9 c10 c11 c12 c13 c14 c15
  obtain ⟨c0, c1, c2, c3, c4, c5, c6, c7, c8, c9, c10, c11, c12, c13, c14, c15⟩ := cells16 BX
  generalize w'.drewN nq = w2 at *
  go_wp2_with (first | (go_at_call 122; refine (ac21_0 _ _ _ _ _ _ _ _ _ _ _ _ _ _ _ _ _ _ (by omega) (by omega) (by omega) (by omega) (by omega) (by omega) _).mono ?_; rintro e w3 ⟨rfl, hb⟩; replace HB : Hid (Below w.heap.size w w3) := HB.out.trans (hb.mono HB.out.size); clear hb; dsimp only) | ((with_reducible refine wpList_load_if rfl 47 _ rfl w.heap.size rfl 47 _ (0, 0) _ BX Tryz.underlying47 rfl (infoK _ rfl) ?_); simp only [Act.put, List.setIfInBounds_toArray, List.set_cons_succ, List.set_cons_zero]))
  go_ret2
  refine ⟨ret_tw ?_, HB.out⟩
  rw [hE.out]
  clear hE HB c0 c1 c2 c3 c4 c5 c6 c7 c8 c9 c10 c11 c12 c13 c14 c15
  replace m0 := m0.out
  replace m1 := m1.out
  replace m2 := m2.out
  omega
set_option maxRecDepth 4000 in
set_option maxHeartbeats 8000000 in
theorem en21_1 (D N M A I J U F C Y : Int) (X O L : Bool) (w : World) (hr : rightB ⟨21, 1, D, N, M, A, I, J, U, F, C, Y, false, X, O, L⟩ = true) :
    Calls Tryz.prog 47 #[(⟨21, 1, D, N, M, A, I, J, U, F, C, Y, false, X, O, L⟩ : Ins).val] w fun e w' => e = .returned (.tuple #[.int .u32 (encV ⟨21, 1, D, N, M, A, I, J, U, F, C, Y, false, X, O, L⟩).1, .bool true]) ∧ Below w.heap.size w w' := by
  have R := rightF hr
  have hE := (wd21 1 D N M A I J U F C Y false X O L hr).1
  replace hE := show Hid _ from hE
  have HC := rright_c ⟨21, 1, D, N, M, A, I, J, U, F, C, Y, false, X, O, L⟩
  rw [hr] at HC
  replace HC := show Hid _ from HC
  clear R hr
  have BX := heap_alloc_new w (.cells #[vI 21, vI 1, vI D, vI N, vI M, vI A, vI I, vI J, vI U, vI F, vI C, vI Y, .bool false, .bool X, .bool O, .bool L] 47)
  have HB := below_alloc w (.cells #[vI 21, vI 1, vI D, vI N, vI M, vI A, vI I, vI J, vI U, vI F, vI C, vI Y, .bool false, .bool X, .bool O, .bool L] 47)
  have b0 : 0 ≤ lowI D 5 ∧ lowI D 5 < 32 := lowI_in _ 5
  have m0 : Hid (lowI D 5 = D % 32) := lowI_mod D 5 (by decide)
  have b1 : 0 ≤ lowI N 5 ∧ lowI N 5 < 32 := lowI_in _ 5
  have m1 : Hid (lowI N 5 = N % 32) := lowI_mod N 5 (by decide)
  have b2 : 0 ≤ lowI M 5 ∧ lowI M 5 < 32 := lowI_in _ 5
  have m2 : Hid (lowI M 5 = M % 32) := lowI_mod M 5 (by decide)
  have v0 := when_in X (x := 1073741824) (by decide)
  have e0 : whenI false 536870912 = 0 := rfl
  skip
  go_enter Tryz.func47, Tryz.ntmps47
  go_wp2_with (first | (go_at_call 119; refine (HC.out _).mono ?_; rintro e w1 ⟨rfl, hb⟩; replace BX := keepB BX hb; replace HB := thenH HB hb; clear hb HC; dsimp only; obtain ⟨c0, c1, c2, c3, c4, c5, c6, c7, c8, c9, c10, c11, c12, c13, c14, c15⟩ := cells16 BX) | ((with_reducible refine wpList_load_if rfl 47 _ rfl w.heap.size rfl 47 _ (0, 0) _ BX Tryz.underlying47 rfl (infoK _ rfl) ?_); simp only [Act.put, List.setIfInBounds_toArray, List.set_cons_succ, List.set_cons_zero]) | (go_at_call 120; refine (lowI_c _ _ (by decide) (by decide) _).mono ?_; rintro e w' ⟨rfl, rfl⟩; dsimp only))
  go_quiet ((first | (go_at_call 120; exact Calls.quiet_of_same (lowI_c _ _ (by decide) (by decide) _)) | (go_at_call 121; exact Calls.quiet_of_same (whenI_c _ _ _))))
  replace HB : Hid (Below w.heap.size w (w'.drewN nq)) := below_drewN HB.out nq
  replace BX := drewB BX nq
  clear c0 c1 c2 c3 c4 c5 c6 c7 c8 c9 c10 c11 c12 c13 c14 c15
  obtain ⟨c0, c1, c2, c3, c4, c5, c6, c7, c8, c9, c10, c11, c12, c13, c14, c15⟩ := cells16 BX
  generalize w'.drewN nq = w2 at *
  go_wp2_with (first | (go_at_call 122; refine (ac21_1 _ _ _ _ _ _ _ _ _ _ _ _ _ _ _ _ _ _ (by omega) (by omega) (by omega) (by omega) (by omega) (by omega) _).mono ?_; rintro e w3 ⟨rfl, hb⟩; replace HB : Hid (Below w.heap.size w w3) := HB.out.trans (hb.mono HB.out.size); clear hb; dsimp only) | ((with_reducible refine wpList_load_if rfl 47 _ rfl w.heap.size rfl 47 _ (0, 0) _ BX Tryz.underlying47 rfl (infoK _ rfl) ?_); simp only [Act.put, List.setIfInBounds_toArray, List.set_cons_succ, List.set_cons_zero]))
  go_ret2
  refine ⟨ret_tw ?_, HB.out⟩
  rw [hE.out]
  clear hE HB c0 c1 c2 c3 c4 c5 c6 c7 c8 c9 c10 c11 c12 c13 c14 c15
  replace m0 := m0.out
  replace m1 := m1.out
  replace m2 := m2.out
  omega
set_option maxRecDepth 4000 in
set_option maxHeartbeats 8000000 in
theorem en22 (S D N M A I J U F C Y : Int) (X O L : Bool) (w : World) (hr : rightB ⟨22, S, D, N, M, A, I, J, U, F, C, Y, false, X, O, L⟩ = true) :
    Calls Tryz.prog 47 #[(⟨22, S, D, N, M, A, I, J, U, F, C, Y, false, X, O, L⟩ : Ins).val] w fun e w' => e = .returned (.tuple #[.int .u32 (encV ⟨22, S, D, N, M, A, I, J, U, F, C, Y, false, X, O, L⟩).1, .bool true]) ∧ Below w.heap.size w w' := by
  have R := rightF hr
  obtain rfl : S = 0 := zero_of R.sub
  have hE := (wd22 0 D N M A I J U F C Y false X O L hr).1
  replace hE := show Hid _ from hE
  have HC := rright_c ⟨22, 0, D, N, M, A, I, J, U, F, C, Y, false, X, O, L⟩
  rw [hr] at HC
  replace HC := show Hid _ from HC
  clear R hr
  have BX := heap_alloc_new w (.cells #[vI 22, vI 0, vI D, vI N, vI M, vI A, vI I, vI J, vI U, vI F, vI C, vI Y, .bool false, .bool X, .bool O, .bool L] 47)
  have HB := below_alloc w (.cells #[vI 22, vI 0, vI D, vI N, vI M, vI A, vI I, vI J, vI U, vI F, vI C, vI Y, .bool false, .bool X, .bool O, .bool L] 47)
  have b0 : 0 ≤ lowI D 5 ∧ lowI D 5 < 32 := lowI_in _ 5
  have m0 : Hid (lowI D 5 = D % 32) := lowI_mod D 5 (by decide)
  have b1 : 0 ≤ lowI N 5 ∧ lowI N 5 < 32 := lowI_in _ 5
  have m1 : Hid (lowI N 5 = N % 32) := lowI_mod N 5 (by decide)
  have b2 : 0 ≤ lowI M 5 ∧ lowI M 5 < 32 := lowI_in _ 5
  have m2 : Hid (lowI M 5 = M % 32) := lowI_mod M 5 (by decide)
  have v0 := when_in X (x := 1073741824) (by decide)
  have e0 : whenI false 536870912 = 0 := rfl
  skip
  go_enter Tryz.func47, Tryz.ntmps47
  go_wp2_with (first | (go_at_call 119; refine (HC.out _).mono ?_; rintro e w1 ⟨rfl, hb⟩; replace BX := keepB BX hb; replace HB := thenH HB hb; clear hb HC; dsimp only; obtain ⟨c0, c1, c2, c3, c4, c5, c6, c7, c8, c9, c10, c11, c12, c13, c14, c15⟩ := cells16 BX) | ((with_reducible refine wpList_load_if rfl 47 _ rfl w.heap.size rfl 47 _ (0, 0) _ BX Tryz.underlying47 rfl (infoK _ rfl) ?_); simp only [Act.put, List.setIfInBounds_toArray, List.set_cons_succ, List.set_cons_zero]) | (go_at_call 120; refine (lowI_c _ _ (by decide) (by decide) _).mono ?_; rintro e w' ⟨rfl, rfl⟩; dsimp only))
  go_quiet ((first | (go_at_call 120; exact Calls.quiet_of_same (lowI_c _ _ (by decide) (by decide) _)) | (go_at_call 121; exact Calls.quiet_of_same (whenI_c _ _ _))))
  replace HB : Hid (Below w.heap.size w (w'.drewN nq)) := below_drewN HB.out nq
  replace BX := drewB BX nq
  clear c0 c1 c2 c3 c4 c5 c6 c7 c8 c9 c10 c11 c12 c13 c14 c15
  obtain ⟨c0, c1, c2, c3, c4, c5, c6, c7, c8, c9, c10, c11, c12, c13, c14, c15⟩ := cells16 BX
  generalize w'.drewN nq = w2 at *
  go_wp2_with (first | (go_at_call 122; refine (ac22 _ _ _ _ _ _ _ _ _ _ _ _ _ _ _ _ _ _ _ (by omega) (by omega) (by omega) (by omega) (by omega) (by omega) (by omega) (by omega) _).mono ?_; rintro e w3 ⟨rfl, hb⟩; replace HB : Hid (Below w.heap.size w w3) := HB.out.trans (hb.mono HB.out.size); clear hb; dsimp only) | ((with_reducible refine wpList_load_if rfl 47 _ rfl w.heap.size rfl 47 _ (0, 0) _ BX Tryz.underlying47 rfl (infoK _ rfl) ?_); simp only [Act.put, List.setIfInBounds_toArray, List.set_cons_succ, List.set_cons_zero]))
  go_ret2
  refine ⟨ret_tw ?_, HB.out⟩
  rw [hE.out]
  clear hE HB c0 c1 c2 c3 c4 c5 c6 c7 c8 c9 c10 c11 c12 c13 c14 c15
  replace m0 := m0.out
  replace m1 := m1.out
  replace m2 := m2.out
  omega
set_option maxRecDepth 4000 in
set_option maxHeartbeats 8000000 in
theorem en23 (S D N M A I J U F C Y : Int) (X O L : Bool) (w : World) (hr : rightB ⟨23, S, D, N, M, A, I, J, U, F, C, Y, false, X, O, L⟩ = true) :
    Calls Tryz.prog 47 #[(⟨23, S, D, N, M, A, I, J, U, F, C, Y, false, X, O, L⟩ : Ins).val] w fun e w' => e = .returned (.tuple #[.int .u32 (encV ⟨23, S, D, N, M, A, I, J, U, F, C, Y, false, X, O, L⟩).1, .bool true]) ∧ Below w.heap.size w w' := by
  have R := rightF hr
  obtain ⟨x0, y0, z0⟩ := holds_of (lo := 0) (hi := 1) (st := 1) (n := S) R.sub
  clear z0
  have hE := (wd23 S D N M A I J U F C Y false X O L hr).1
  replace hE := show Hid _ from hE
  have HC := rright_c ⟨23, S, D, N, M, A, I, J, U, F, C, Y, false, X, O, L⟩
  rw [hr] at HC
  replace HC := show Hid _ from HC
  clear R hr
  have BX := heap_alloc_new w (.cells #[vI 23, vI S, vI D, vI N, vI M, vI A, vI I, vI J, vI U, vI F, vI C, vI Y, .bool false, .bool X, .bool O, .bool L] 47)
  have HB := below_alloc w (.cells #[vI 23, vI S, vI D, vI N, vI M, vI A, vI I, vI J, vI U, vI F, vI C, vI Y, .bool false, .bool X, .bool O, .bool L] 47)
  have b0 : 0 ≤ lowI D 5 ∧ lowI D 5 < 32 := lowI_in _ 5
  have m0 : Hid (lowI D 5 = D % 32) := lowI_mod D 5 (by decide)
  have b1 : 0 ≤ lowI N 5 ∧ lowI N 5 < 32 := lowI_in _ 5
  have m1 : Hid (lowI N 5 = N % 32) := lowI_mod N 5 (by decide)
  have b2 : 0 ≤ lowI M 5 ∧ lowI M 5 < 32 := lowI_in _ 5
  have m2 : Hid (lowI M 5 = M % 32) := lowI_mod M 5 (by decide)
  have v0 := when_in X (x := 1073741824) (by decide)
  have e0 : whenI false 536870912 = 0 := rfl
  skip
  go_enter Tryz.func47, Tryz.ntmps47
  go_wp2_with (first | (go_at_call 119; refine (HC.out _).mono ?_; rintro e w1 ⟨rfl, hb⟩; replace BX := keepB BX hb; replace HB := thenH HB hb; clear hb HC; dsimp only; obtain ⟨c0, c1, c2, c3, c4, c5, c6, c7, c8, c9, c10, c11, c12, c13, c14, c15⟩ := cells16 BX) | ((with_reducible refine wpList_load_if rfl 47 _ rfl w.heap.size rfl 47 _ (0, 0) _ BX Tryz.underlying47 rfl (infoK _ rfl) ?_); simp only [Act.put, List.setIfInBounds_toArray, List.set_cons_succ, List.set_cons_zero]) | (go_at_call 120; refine (lowI_c _ _ (by decide) (by decide) _).mono ?_; rintro e w' ⟨rfl, rfl⟩; dsimp only))
  go_quiet ((first | (go_at_call 120; exact Calls.quiet_of_same (lowI_c _ _ (by decide) (by decide) _)) | (go_at_call 121; exact Calls.quiet_of_same (whenI_c _ _ _))))
  replace HB : Hid (Below w.heap.size w (w'.drewN nq)) := below_drewN HB.out nq
  replace BX := drewB BX nq
  clear c0 c1 c2 c3 c4 c5 c6 c7 c8 c9 c10 c11 c12 c13 c14 c15
  obtain ⟨c0, c1, c2, c3, c4, c5, c6, c7, c8, c9, c10, c11, c12, c13, c14, c15⟩ := cells16 BX
  generalize w'.drewN nq = w2 at *
  go_wp2_with (first | (go_at_call 122; refine (ac23 _ _ _ _ _ _ _ _ _ _ _ _ _ _ _ _ _ _ _ (by omega) (by omega) (by omega) (by omega) (by omega) (by omega) (by omega) (by omega) _).mono ?_; rintro e w3 ⟨rfl, hb⟩; replace HB : Hid (Below w.heap.size w w3) := HB.out.trans (hb.mono HB.out.size); clear hb; dsimp only) | ((with_reducible refine wpList_load_if rfl 47 _ rfl w.heap.size rfl 47 _ (0, 0) _ BX Tryz.underlying47 rfl (infoK _ rfl) ?_); simp only [Act.put, List.setIfInBounds_toArray, List.set_cons_succ, List.set_cons_zero]))
  go_ret2
  refine ⟨ret_tw ?_, HB.out⟩
  rw [hE.out]
  clear hE HB c0 c1 c2 c3 c4 c5 c6 c7 c8 c9 c10 c11 c12 c13 c14 c15
  replace m0 := m0.out
  replace m1 := m1.out
  replace m2 := m2.out
  omega
end Go.Proofs.YtbjcdpmhmebjnaaGreat
/- Encode of the document's own answer to chapter 3: contracts, an Op each. -/
namespace Go.Proofs.YtbjcdpmhmebjnaaGreat
open Go.RowKit Go.Rel
set_option linter.unusedVariables false
set_option linter.unusedSimpArgs false

set_option maxRecDepth 4000 in
set_option maxHeartbeats 8000000 in
theorem en24 (S D N M A I J U F C Y : Int) (X O L : Bool) (w : World) (hr : rightB ⟨24, S, D, N, M, A, I, J, U, F, C, Y, false, X, O, L⟩ = true) :
    Calls Tryz.prog 47 #[(⟨24, S, D, N, M, A, I, J, U, F, C, Y, false, X, O, L⟩ : Ins).val] w fun e w' => e = .returned (.tuple #[.int .u32 (encV ⟨24, S, D, N, M, A, I, J, U, F, C, Y, false, X, O, L⟩).1, .bool true]) ∧ Below w.heap.size w w' := by
  have R := rightF hr
  obtain ⟨x0, y0, z0⟩ := holds_of (lo := 0) (hi := 1) (st := 1) (n := S) R.sub
  clear z0
  have hE := (wd24 S D N M A I J U F C Y false X O L hr).1
  replace hE := show Hid _ from hE
  have HC := rright_c ⟨24, S, D, N, M, A, I, J, U, F, C, Y, false, X, O, L⟩
  rw [hr] at HC
  replace HC := show Hid _ from HC
  clear R hr
  have BX := heap_alloc_new w (.cells #[vI 24, vI S, vI D, vI N, vI M, vI A, vI I, vI J, vI U, vI F, vI C, vI Y, .bool false, .bool X, .bool O, .bool L] 47)
  have HB := below_alloc w (.cells #[vI 24, vI S, vI D, vI N, vI M, vI A, vI I, vI J, vI U, vI F, vI C, vI Y, .bool false, .bool X, .bool O, .bool L] 47)
  have b0 : 0 ≤ lowI D 5 ∧ lowI D 5 < 32 := lowI_in _ 5
  have m0 : Hid (lowI D 5 = D % 32) := lowI_mod D 5 (by decide)
  have b1 : 0 ≤ lowI N 5 ∧ lowI N 5 < 32 := lowI_in _ 5
  have m1 : Hid (lowI N 5 = N % 32) := lowI_mod N 5 (by decide)
  have b2 : 0 ≤ lowI M 5 ∧ lowI M 5 < 32 := lowI_in _ 5
  have m2 : Hid (lowI M 5 = M % 32) := lowI_mod M 5 (by decide)
  have v0 := when_in X (x := 1073741824) (by decide)
  have e0 : whenI false 536870912 = 0 := rfl
  skip
  go_enter Tryz.func47, Tryz.ntmps47
  go_wp2_with (first | (go_at_call 119; refine (HC.out _).mono ?_; rintro e w1 ⟨rfl, hb⟩; replace BX := keepB BX hb; replace HB := thenH HB hb; clear hb HC; dsimp only; obtain ⟨c0, c1, c2, c3, c4, c5, c6, c7, c8, c9, c10, c11, c12, c13, c14, c15⟩ := cells16 BX) | ((with_reducible refine wpList_load_if rfl 47 _ rfl w.heap.size rfl 47 _ (0, 0) _ BX Tryz.underlying47 rfl (infoK _ rfl) ?_); simp only [Act.put, List.setIfInBounds_toArray, List.set_cons_succ, List.set_cons_zero]) | (go_at_call 120; refine (lowI_c _ _ (by decide) (by decide) _).mono ?_; rintro e w' ⟨rfl, rfl⟩; dsimp only))
  go_quiet ((first | (go_at_call 120; exact Calls.quiet_of_same (lowI_c _ _ (by decide) (by decide) _)) | (go_at_call 121; exact Calls.quiet_of_same (whenI_c _ _ _))))
  replace HB : Hid (Below w.heap.size w (w'.drewN nq)) := below_drewN HB.out nq
  replace BX := drewB BX nq
  clear c0 c1 c2 c3 c4 c5 c6 c7 c8 c9 c10 c11 c12 c13 c14 c15
  obtain ⟨c0, c1, c2, c3, c4, c5, c6, c7, c8, c9, c10, c11, c12, c13, c14, c15⟩ := cells16 BX
  generalize w'.drewN nq = w2 at *
  go_wp2_with (first | (go_at_call 122; refine (ac24 _ _ _ _ _ _ _ _ _ _ _ _ _ _ _ _ _ _ _ (by omega) (by omega) (by omega) (by omega) (by omega) (by omega) (by omega) (by omega) _).mono ?_; rintro e w3 ⟨rfl, hb⟩; replace HB : Hid (Below w.heap.size w w3) := HB.out.trans (hb.mono HB.out.size); clear hb; dsimp only) | ((with_reducible refine wpList_load_if rfl 47 _ rfl w.heap.size rfl 47 _ (0, 0) _ BX Tryz.underlying47 rfl (infoK _ rfl) ?_); simp only [Act.put, List.setIfInBounds_toArray, List.set_cons_succ, List.set_cons_zero]))
  go_ret2
  refine ⟨ret_tw ?_, HB.out⟩
  rw [hE.out]
  clear hE HB c0 c1 c2 c3 c4 c5 c6 c7 c8 c9 c10 c11 c12 c13 c14 c15
  replace m0 := m0.out
  replace m1 := m1.out
  replace m2 := m2.out
  omega
set_option maxRecDepth 4000 in
set_option maxHeartbeats 8000000 in
theorem en25 (S D N M A I J U F C Y : Int) (X O L : Bool) (w : World) (hr : rightB ⟨25, S, D, N, M, A, I, J, U, F, C, Y, false, X, O, L⟩ = true) :
    Calls Tryz.prog 47 #[(⟨25, S, D, N, M, A, I, J, U, F, C, Y, false, X, O, L⟩ : Ins).val] w fun e w' => e = .returned (.tuple #[.int .u32 (encV ⟨25, S, D, N, M, A, I, J, U, F, C, Y, false, X, O, L⟩).1, .bool true]) ∧ Below w.heap.size w w' := by
  have R := rightF hr
  obtain rfl : S = 0 := zero_of R.sub
  have hE := (wd25 0 D N M A I J U F C Y false X O L hr).1
  replace hE := show Hid _ from hE
  have HC := rright_c ⟨25, 0, D, N, M, A, I, J, U, F, C, Y, false, X, O, L⟩
  rw [hr] at HC
  replace HC := show Hid _ from HC
  clear R hr
  have BX := heap_alloc_new w (.cells #[vI 25, vI 0, vI D, vI N, vI M, vI A, vI I, vI J, vI U, vI F, vI C, vI Y, .bool false, .bool X, .bool O, .bool L] 47)
  have HB := below_alloc w (.cells #[vI 25, vI 0, vI D, vI N, vI M, vI A, vI I, vI J, vI U, vI F, vI C, vI Y, .bool false, .bool X, .bool O, .bool L] 47)
  have b0 : 0 ≤ lowI D 5 ∧ lowI D 5 < 32 := lowI_in _ 5
  have m0 : Hid (lowI D 5 = D % 32) := lowI_mod D 5 (by decide)
  have b1 : 0 ≤ lowI N 5 ∧ lowI N 5 < 32 := lowI_in _ 5
  have m1 : Hid (lowI N 5 = N % 32) := lowI_mod N 5 (by decide)
  have b2 : 0 ≤ lowI M 5 ∧ lowI M 5 < 32 := lowI_in _ 5
  have m2 : Hid (lowI M 5 = M % 32) := lowI_mod M 5 (by decide)
  have v0 := when_in X (x := 1073741824) (by decide)
  have e0 : whenI false 536870912 = 0 := rfl
  skip
  go_enter Tryz.func47, Tryz.ntmps47
  go_wp2_with (first | (go_at_call 119; refine (HC.out _).mono ?_; rintro e w1 ⟨rfl, hb⟩; replace BX := keepB BX hb; replace HB := thenH HB hb; clear hb HC; dsimp only; obtain ⟨c0, c1, c2, c3, c4, c5, c6, c7, c8, c9, c10, c11, c12, c13, c14, c15⟩ := cells16 BX) | ((with_reducible refine wpList_load_if rfl 47 _ rfl w.heap.size rfl 47 _ (0, 0) _ BX Tryz.underlying47 rfl (infoK _ rfl) ?_); simp only [Act.put, List.setIfInBounds_toArray, List.set_cons_succ, List.set_cons_zero]) | (go_at_call 120; refine (lowI_c _ _ (by decide) (by decide) _).mono ?_; rintro e w' ⟨rfl, rfl⟩; dsimp only))
  go_quiet ((first | (go_at_call 120; exact Calls.quiet_of_same (lowI_c _ _ (by decide) (by decide) _)) | (go_at_call 121; exact Calls.quiet_of_same (whenI_c _ _ _))))
  replace HB : Hid (Below w.heap.size w (w'.drewN nq)) := below_drewN HB.out nq
  replace BX := drewB BX nq
  clear c0 c1 c2 c3 c4 c5 c6 c7 c8 c9 c10 c11 c12 c13 c14 c15
  obtain ⟨c0, c1, c2, c3, c4, c5, c6, c7, c8, c9, c10, c11, c12, c13, c14, c15⟩ := cells16 BX
  generalize w'.drewN nq = w2 at *
  go_wp2_with (first | (go_at_call 122; refine (ac25 _ _ _ _ _ _ _ _ _ _ _ _ _ _ _ _ _ _ _ (by omega) (by omega) (by omega) (by omega) (by omega) (by omega) (by omega) (by omega) _).mono ?_; rintro e w3 ⟨rfl, hb⟩; replace HB : Hid (Below w.heap.size w w3) := HB.out.trans (hb.mono HB.out.size); clear hb; dsimp only) | ((with_reducible refine wpList_load_if rfl 47 _ rfl w.heap.size rfl 47 _ (0, 0) _ BX Tryz.underlying47 rfl (infoK _ rfl) ?_); simp only [Act.put, List.setIfInBounds_toArray, List.set_cons_succ, List.set_cons_zero]))
  go_ret2
  refine ⟨ret_tw ?_, HB.out⟩
  rw [hE.out]
  clear hE HB c0 c1 c2 c3 c4 c5 c6 c7 c8 c9 c10 c11 c12 c13 c14 c15
  replace m0 := m0.out
  replace m1 := m1.out
  replace m2 := m2.out
  omega
set_option maxRecDepth 4000 in
set_option maxHeartbeats 8000000 in
theorem en26_0 (D N M A I J U F C Y : Int) (X O L : Bool) (w : World) (hr : rightB ⟨26, 0, D, N, M, A, I, J, U, F, C, Y, false, X, O, L⟩ = true) :
    Calls Tryz.prog 47 #[(⟨26, 0, D, N, M, A, I, J, U, F, C, Y, false, X, O, L⟩ : Ins).val] w fun e w' => e = .returned (.tuple #[.int .u32 (encV ⟨26, 0, D, N, M, A, I, J, U, F, C, Y, false, X, O, L⟩).1, .bool true]) ∧ Below w.heap.size w w' := by
  have R := rightF hr
  obtain ⟨x0, y0, z0⟩ := holds_of (lo := 1) (hi := 3) (st := 1) (n := I) R.imm
  clear z0
  have hE := (wd26 0 D N M A I J U F C Y false X O L hr).1
  replace hE := show Hid _ from hE
  have HC := rright_c ⟨26, 0, D, N, M, A, I, J, U, F, C, Y, false, X, O, L⟩
  rw [hr] at HC
  replace HC := show Hid _ from HC
  clear R hr
  have BX := heap_alloc_new w (.cells #[vI 26, vI 0, vI D, vI N, vI M, vI A, vI I, vI J, vI U, vI F, vI C, vI Y, .bool false, .bool X, .bool O, .bool L] 47)
  have HB := below_alloc w (.cells #[vI 26, vI 0, vI D, vI N, vI M, vI A, vI I, vI J, vI U, vI F, vI C, vI Y, .bool false, .bool X, .bool O, .bool L] 47)
  have b0 : 0 ≤ lowI D 5 ∧ lowI D 5 < 32 := lowI_in _ 5
  have m0 : Hid (lowI D 5 = D % 32) := lowI_mod D 5 (by decide)
  have b1 : 0 ≤ lowI N 5 ∧ lowI N 5 < 32 := lowI_in _ 5
  have m1 : Hid (lowI N 5 = N % 32) := lowI_mod N 5 (by decide)
  have b2 : 0 ≤ lowI M 5 ∧ lowI M 5 < 32 := lowI_in _ 5
  have m2 : Hid (lowI M 5 = M % 32) := lowI_mod M 5 (by decide)
  have v0 := when_in X (x := 1073741824) (by decide)
  have e0 : whenI false 536870912 = 0 := rfl
  skip
  go_enter Tryz.func47, Tryz.ntmps47
  go_wp2_with (first | (go_at_call 119; refine (HC.out _).mono ?_; rintro e w1 ⟨rfl, hb⟩; replace BX := keepB BX hb; replace HB := thenH HB hb; clear hb HC; dsimp only; obtain ⟨c0, c1, c2, c3, c4, c5, c6, c7, c8, c9, c10, c11, c12, c13, c14, c15⟩ := cells16 BX) | ((with_reducible refine wpList_load_if rfl 47 _ rfl w.heap.size rfl 47 _ (0, 0) _ BX Tryz.underlying47 rfl (infoK _ rfl) ?_); simp only [Act.put, List.setIfInBounds_toArray, List.set_cons_succ, List.set_cons_zero]) | (go_at_call 120; refine (lowI_c _ _ (by decide) (by decide) _).mono ?_; rintro e w' ⟨rfl, rfl⟩; dsimp only))
  go_quiet ((first | (go_at_call 120; exact Calls.quiet_of_same (lowI_c _ _ (by decide) (by decide) _)) | (go_at_call 121; exact Calls.quiet_of_same (whenI_c _ _ _))))
  replace HB : Hid (Below w.heap.size w (w'.drewN nq)) := below_drewN HB.out nq
  replace BX := drewB BX nq
  clear c0 c1 c2 c3 c4 c5 c6 c7 c8 c9 c10 c11 c12 c13 c14 c15
  obtain ⟨c0, c1, c2, c3, c4, c5, c6, c7, c8, c9, c10, c11, c12, c13, c14, c15⟩ := cells16 BX
  generalize w'.drewN nq = w2 at *
  go_wp2_with (first | (go_at_call 122; refine (ac26 _ _ _ _ _ _ _ _ _ _ _ _ _ _ _ _ _ _ _ (by omega) (by omega) (by omega) (by omega) (by omega) (by omega) (by omega) (by omega) (by omega) (by omega) _).mono ?_; rintro e w3 ⟨rfl, hb⟩; replace HB : Hid (Below w.heap.size w w3) := HB.out.trans (hb.mono HB.out.size); clear hb; dsimp only) | ((with_reducible refine wpList_load_if rfl 47 _ rfl w.heap.size rfl 47 _ (0, 0) _ BX Tryz.underlying47 rfl (infoK _ rfl) ?_); simp only [Act.put, List.setIfInBounds_toArray, List.set_cons_succ, List.set_cons_zero]))
  go_ret2
  refine ⟨ret_tw ?_, HB.out⟩
  rw [hE.out]
  clear hE HB c0 c1 c2 c3 c4 c5 c6 c7 c8 c9 c10 c11 c12 c13 c14 c15
  replace m0 := m0.out
  replace m1 := m1.out
  replace m2 := m2.out
  omega
set_option maxRecDepth 4000 in
set_option maxHeartbeats 8000000 in
theorem en26_1 (D N M A I J U F C Y : Int) (X O L : Bool) (w : World) (hr : rightB ⟨26, 1, D, N, M, A, I, J, U, F, C, Y, false, X, O, L⟩ = true) :
    Calls Tryz.prog 47 #[(⟨26, 1, D, N, M, A, I, J, U, F, C, Y, false, X, O, L⟩ : Ins).val] w fun e w' => e = .returned (.tuple #[.int .u32 (encV ⟨26, 1, D, N, M, A, I, J, U, F, C, Y, false, X, O, L⟩).1, .bool true]) ∧ Below w.heap.size w w' := by
  have R := rightF hr
  obtain ⟨x0, y0, z0⟩ := holds_of (lo := 1) (hi := 3) (st := 1) (n := I) R.imm
  clear z0
  have hE := (wd27 1 D N M A I J U F C Y false X O L hr).1
  replace hE := show Hid _ from hE
  have HC := rright_c ⟨26, 1, D, N, M, A, I, J, U, F, C, Y, false, X, O, L⟩
  rw [hr] at HC
  replace HC := show Hid _ from HC
  clear R hr
  have BX := heap_alloc_new w (.cells #[vI 26, vI 1, vI D, vI N, vI M, vI A, vI I, vI J, vI U, vI F, vI C, vI Y, .bool false, .bool X, .bool O, .bool L] 47)
  have HB := below_alloc w (.cells #[vI 26, vI 1, vI D, vI N, vI M, vI A, vI I, vI J, vI U, vI F, vI C, vI Y, .bool false, .bool X, .bool O, .bool L] 47)
  have b0 : 0 ≤ lowI D 5 ∧ lowI D 5 < 32 := lowI_in _ 5
  have m0 : Hid (lowI D 5 = D % 32) := lowI_mod D 5 (by decide)
  have b1 : 0 ≤ lowI N 5 ∧ lowI N 5 < 32 := lowI_in _ 5
  have m1 : Hid (lowI N 5 = N % 32) := lowI_mod N 5 (by decide)
  have b2 : 0 ≤ lowI M 5 ∧ lowI M 5 < 32 := lowI_in _ 5
  have m2 : Hid (lowI M 5 = M % 32) := lowI_mod M 5 (by decide)
  have v0 := when_in X (x := 1073741824) (by decide)
  have e0 : whenI false 536870912 = 0 := rfl
  skip
  go_enter Tryz.func47, Tryz.ntmps47
  go_wp2_with (first | (go_at_call 119; refine (HC.out _).mono ?_; rintro e w1 ⟨rfl, hb⟩; replace BX := keepB BX hb; replace HB := thenH HB hb; clear hb HC; dsimp only; obtain ⟨c0, c1, c2, c3, c4, c5, c6, c7, c8, c9, c10, c11, c12, c13, c14, c15⟩ := cells16 BX) | ((with_reducible refine wpList_load_if rfl 47 _ rfl w.heap.size rfl 47 _ (0, 0) _ BX Tryz.underlying47 rfl (infoK _ rfl) ?_); simp only [Act.put, List.setIfInBounds_toArray, List.set_cons_succ, List.set_cons_zero]) | (go_at_call 120; refine (lowI_c _ _ (by decide) (by decide) _).mono ?_; rintro e w' ⟨rfl, rfl⟩; dsimp only))
  go_quiet ((first | (go_at_call 120; exact Calls.quiet_of_same (lowI_c _ _ (by decide) (by decide) _)) | (go_at_call 121; exact Calls.quiet_of_same (whenI_c _ _ _))))
  replace HB : Hid (Below w.heap.size w (w'.drewN nq)) := below_drewN HB.out nq
  replace BX := drewB BX nq
  clear c0 c1 c2 c3 c4 c5 c6 c7 c8 c9 c10 c11 c12 c13 c14 c15
  obtain ⟨c0, c1, c2, c3, c4, c5, c6, c7, c8, c9, c10, c11, c12, c13, c14, c15⟩ := cells16 BX
  generalize w'.drewN nq = w2 at *
  go_wp2_with (first | (go_at_call 122; refine (ac26 _ _ _ _ _ _ _ _ _ _ _ _ _ _ _ _ _ _ _ (by omega) (by omega) (by omega) (by omega) (by omega) (by omega) (by omega) (by omega) (by omega) (by omega) _).mono ?_; rintro e w3 ⟨rfl, hb⟩; replace HB : Hid (Below w.heap.size w w3) := HB.out.trans (hb.mono HB.out.size); clear hb; dsimp only) | ((with_reducible refine wpList_load_if rfl 47 _ rfl w.heap.size rfl 47 _ (0, 0) _ BX Tryz.underlying47 rfl (infoK _ rfl) ?_); simp only [Act.put, List.setIfInBounds_toArray, List.set_cons_succ, List.set_cons_zero]))
  go_ret2
  refine ⟨ret_tw ?_, HB.out⟩
  rw [hE.out]
  clear hE HB c0 c1 c2 c3 c4 c5 c6 c7 c8 c9 c10 c11 c12 c13 c14 c15
  replace m0 := m0.out
  replace m1 := m1.out
  replace m2 := m2.out
  omega
set_option maxRecDepth 4000 in
set_option maxHeartbeats 8000000 in
theorem en27 (S D N M A I J U F C Y : Int) (X O L : Bool) (w : World) (hr : rightB ⟨27, S, D, N, M, A, I, J, U, F, C, Y, false, X, O, L⟩ = true) :
    Calls Tryz.prog 47 #[(⟨27, S, D, N, M, A, I, J, U, F, C, Y, false, X, O, L⟩ : Ins).val] w fun e w' => e = .returned (.tuple #[.int .u32 (encV ⟨27, S, D, N, M, A, I, J, U, F, C, Y, false, X, O, L⟩).1, .bool true]) ∧ Below w.heap.size w w' := by
  have R := rightF hr
  obtain rfl : S = 0 := zero_of R.sub
  have hE := (wd28 0 D N M A I J U F C Y false X O L hr).1
  replace hE := show Hid _ from hE
  have HC := rright_c ⟨27, 0, D, N, M, A, I, J, U, F, C, Y, false, X, O, L⟩
  rw [hr] at HC
  replace HC := show Hid _ from HC
  clear R hr
  have BX := heap_alloc_new w (.cells #[vI 27, vI 0, vI D, vI N, vI M, vI A, vI I, vI J, vI U, vI F, vI C, vI Y, .bool false, .bool X, .bool O, .bool L] 47)
  have HB := below_alloc w (.cells #[vI 27, vI 0, vI D, vI N, vI M, vI A, vI I, vI J, vI U, vI F, vI C, vI Y, .bool false, .bool X, .bool O, .bool L] 47)
  have b0 : 0 ≤ lowI D 5 ∧ lowI D 5 < 32 := lowI_in _ 5
  have m0 : Hid (lowI D 5 = D % 32) := lowI_mod D 5 (by decide)
  have b1 : 0 ≤ lowI N 5 ∧ lowI N 5 < 32 := lowI_in _ 5
  have m1 : Hid (lowI N 5 = N % 32) := lowI_mod N 5 (by decide)
  have b2 : 0 ≤ lowI M 5 ∧ lowI M 5 < 32 := lowI_in _ 5
  have m2 : Hid (lowI M 5 = M % 32) := lowI_mod M 5 (by decide)
  have v0 := when_in X (x := 1073741824) (by decide)
  have e0 : whenI false 536870912 = 0 := rfl
  skip
  go_enter Tryz.func47, Tryz.ntmps47
  go_wp2_with (first | (go_at_call 119; refine (HC.out _).mono ?_; rintro e w1 ⟨rfl, hb⟩; replace BX := keepB BX hb; replace HB := thenH HB hb; clear hb HC; dsimp only; obtain ⟨c0, c1, c2, c3, c4, c5, c6, c7, c8, c9, c10, c11, c12, c13, c14, c15⟩ := cells16 BX) | ((with_reducible refine wpList_load_if rfl 47 _ rfl w.heap.size rfl 47 _ (0, 0) _ BX Tryz.underlying47 rfl (infoK _ rfl) ?_); simp only [Act.put, List.setIfInBounds_toArray, List.set_cons_succ, List.set_cons_zero]) | (go_at_call 120; refine (lowI_c _ _ (by decide) (by decide) _).mono ?_; rintro e w' ⟨rfl, rfl⟩; dsimp only))
  go_quiet ((first | (go_at_call 120; exact Calls.quiet_of_same (lowI_c _ _ (by decide) (by decide) _)) | (go_at_call 121; exact Calls.quiet_of_same (whenI_c _ _ _))))
  replace HB : Hid (Below w.heap.size w (w'.drewN nq)) := below_drewN HB.out nq
  replace BX := drewB BX nq
  clear c0 c1 c2 c3 c4 c5 c6 c7 c8 c9 c10 c11 c12 c13 c14 c15
  obtain ⟨c0, c1, c2, c3, c4, c5, c6, c7, c8, c9, c10, c11, c12, c13, c14, c15⟩ := cells16 BX
  generalize w'.drewN nq = w2 at *
  go_wp2_with (first | (go_at_call 122; refine (ac27 _ _ _ _ _ _ _ _ _ _ _ _ _ _ _ _ _ _ _ (by omega) (by omega) (by omega) (by omega) (by omega) (by omega) (by omega) (by omega) _).mono ?_; rintro e w3 ⟨rfl, hb⟩; replace HB : Hid (Below w.heap.size w w3) := HB.out.trans (hb.mono HB.out.size); clear hb; dsimp only) | ((with_reducible refine wpList_load_if rfl 47 _ rfl w.heap.size rfl 47 _ (0, 0) _ BX Tryz.underlying47 rfl (infoK _ rfl) ?_); simp only [Act.put, List.setIfInBounds_toArray, List.set_cons_succ, List.set_cons_zero]))
  go_ret2
  refine ⟨ret_tw ?_, HB.out⟩
  rw [hE.out]
  clear hE HB c0 c1 c2 c3 c4 c5 c6 c7 c8 c9 c10 c11 c12 c13 c14 c15
  replace m0 := m0.out
  replace m1 := m1.out
  replace m2 := m2.out
  omega
set_option maxRecDepth 4000 in
set_option maxHeartbeats 8000000 in
theorem en28 (S D N M A I J U F C Y : Int) (X O L : Bool) (w : World) (hr : rightB ⟨28, S, D, N, M, A, I, J, U, F, C, Y, false, X, O, L⟩ = true) :
    Calls Tryz.prog 47 #[(⟨28, S, D, N, M, A, I, J, U, F, C, Y, false, X, O, L⟩ : Ins).val] w fun e w' => e = .returned (.tuple #[.int .u32 (encV ⟨28, S, D, N, M, A, I, J, U, F, C, Y, false, X, O, L⟩).1, .bool true]) ∧ Below w.heap.size w w' := by
  have R := rightF hr
  obtain rfl : S = 0 := zero_of R.sub
  have hE := (wd29 0 D N M A I J U F C Y false X O L hr).1
  replace hE := show Hid _ from hE
  have HC := rright_c ⟨28, 0, D, N, M, A, I, J, U, F, C, Y, false, X, O, L⟩
  rw [hr] at HC
  replace HC := show Hid _ from HC
  clear R hr
  have BX := heap_alloc_new w (.cells #[vI 28, vI 0, vI D, vI N, vI M, vI A, vI I, vI J, vI U, vI F, vI C, vI Y, .bool false, .bool X, .bool O, .bool L] 47)
  have HB := below_alloc w (.cells #[vI 28, vI 0, vI D, vI N, vI M, vI A, vI I, vI J, vI U, vI F, vI C, vI Y, .bool false, .bool X, .bool O, .bool L] 47)
  have b0 : 0 ≤ lowI D 5 ∧ lowI D 5 < 32 := lowI_in _ 5
  have m0 : Hid (lowI D 5 = D % 32) := lowI_mod D 5 (by decide)
  have b1 : 0 ≤ lowI N 5 ∧ lowI N 5 < 32 := lowI_in _ 5
  have m1 : Hid (lowI N 5 = N % 32) := lowI_mod N 5 (by decide)
  have b2 : 0 ≤ lowI M 5 ∧ lowI M 5 < 32 := lowI_in _ 5
  have m2 : Hid (lowI M 5 = M % 32) := lowI_mod M 5 (by decide)
  have v0 := when_in X (x := 1073741824) (by decide)
  have e0 : whenI false 536870912 = 0 := rfl
  skip
  go_enter Tryz.func47, Tryz.ntmps47
  go_wp2_with (first | (go_at_call 119; refine (HC.out _).mono ?_; rintro e w1 ⟨rfl, hb⟩; replace BX := keepB BX hb; replace HB := thenH HB hb; clear hb HC; dsimp only; obtain ⟨c0, c1, c2, c3, c4, c5, c6, c7, c8, c9, c10, c11, c12, c13, c14, c15⟩ := cells16 BX) | ((with_reducible refine wpList_load_if rfl 47 _ rfl w.heap.size rfl 47 _ (0, 0) _ BX Tryz.underlying47 rfl (infoK _ rfl) ?_); simp only [Act.put, List.setIfInBounds_toArray, List.set_cons_succ, List.set_cons_zero]) | (go_at_call 120; refine (lowI_c _ _ (by decide) (by decide) _).mono ?_; rintro e w' ⟨rfl, rfl⟩; dsimp only))
  go_quiet ((first | (go_at_call 120; exact Calls.quiet_of_same (lowI_c _ _ (by decide) (by decide) _)) | (go_at_call 121; exact Calls.quiet_of_same (whenI_c _ _ _))))
  replace HB : Hid (Below w.heap.size w (w'.drewN nq)) := below_drewN HB.out nq
  replace BX := drewB BX nq
  clear c0 c1 c2 c3 c4 c5 c6 c7 c8 c9 c10 c11 c12 c13 c14 c15
  obtain ⟨c0, c1, c2, c3, c4, c5, c6, c7, c8, c9, c10, c11, c12, c13, c14, c15⟩ := cells16 BX
  generalize w'.drewN nq = w2 at *
  go_wp2_with (first | (go_at_call 122; refine (ac28 _ _ _ _ _ _ _ _ _ _ _ _ _ _ _ _ _ _ _ (by omega) (by omega) (by omega) (by omega) (by omega) (by omega) (by omega) (by omega) _).mono ?_; rintro e w3 ⟨rfl, hb⟩; replace HB : Hid (Below w.heap.size w w3) := HB.out.trans (hb.mono HB.out.size); clear hb; dsimp only) | ((with_reducible refine wpList_load_if rfl 47 _ rfl w.heap.size rfl 47 _ (0, 0) _ BX Tryz.underlying47 rfl (infoK _ rfl) ?_); simp only [Act.put, List.setIfInBounds_toArray, List.set_cons_succ, List.set_cons_zero]))
  go_ret2
  refine ⟨ret_tw ?_, HB.out⟩
  rw [hE.out]
  clear hE HB c0 c1 c2 c3 c4 c5 c6 c7 c8 c9 c10 c11 c12 c13 c14 c15
  replace m0 := m0.out
  replace m1 := m1.out
  replace m2 := m2.out
  omega
set_option maxRecDepth 4000 in
set_option maxHeartbeats 8000000 in
theorem en29 (S D N M A I J U F C Y : Int) (X O L : Bool) (w : World) (hr : rightB ⟨29, S, D, N, M, A, I, J, U, F, C, Y, false, X, O, L⟩ = true) :
    Calls Tryz.prog 47 #[(⟨29, S, D, N, M, A, I, J, U, F, C, Y, false, X, O, L⟩ : Ins).val] w fun e w' => e = .returned (.tuple #[.int .u32 (encV ⟨29, S, D, N, M, A, I, J, U, F, C, Y, false, X, O, L⟩).1, .bool true]) ∧ Below w.heap.size w w' := by
  have R := rightF hr
  obtain rfl : S = 0 := zero_of R.sub
  have hE := (wd31 0 D N M A I J U F C Y false X O L hr).1
  replace hE := show Hid _ from hE
  have HC := rright_c ⟨29, 0, D, N, M, A, I, J, U, F, C, Y, false, X, O, L⟩
  rw [hr] at HC
  replace HC := show Hid _ from HC
  clear R hr
  have BX := heap_alloc_new w (.cells #[vI 29, vI 0, vI D, vI N, vI M, vI A, vI I, vI J, vI U, vI F, vI C, vI Y, .bool false, .bool X, .bool O, .bool L] 47)
  have HB := below_alloc w (.cells #[vI 29, vI 0, vI D, vI N, vI M, vI A, vI I, vI J, vI U, vI F, vI C, vI Y, .bool false, .bool X, .bool O, .bool L] 47)
  have b0 : 0 ≤ lowI D 5 ∧ lowI D 5 < 32 := lowI_in _ 5
  have m0 : Hid (lowI D 5 = D % 32) := lowI_mod D 5 (by decide)
  have b1 : 0 ≤ lowI N 5 ∧ lowI N 5 < 32 := lowI_in _ 5
  have m1 : Hid (lowI N 5 = N % 32) := lowI_mod N 5 (by decide)
  have b2 : 0 ≤ lowI M 5 ∧ lowI M 5 < 32 := lowI_in _ 5
  have m2 : Hid (lowI M 5 = M % 32) := lowI_mod M 5 (by decide)
  have v0 := when_in X (x := 1073741824) (by decide)
  have e0 : whenI false 536870912 = 0 := rfl
  skip
  go_enter Tryz.func47, Tryz.ntmps47
  go_wp2_with (first | (go_at_call 119; refine (HC.out _).mono ?_; rintro e w1 ⟨rfl, hb⟩; replace BX := keepB BX hb; replace HB := thenH HB hb; clear hb HC; dsimp only; obtain ⟨c0, c1, c2, c3, c4, c5, c6, c7, c8, c9, c10, c11, c12, c13, c14, c15⟩ := cells16 BX) | ((with_reducible refine wpList_load_if rfl 47 _ rfl w.heap.size rfl 47 _ (0, 0) _ BX Tryz.underlying47 rfl (infoK _ rfl) ?_); simp only [Act.put, List.setIfInBounds_toArray, List.set_cons_succ, List.set_cons_zero]) | (go_at_call 120; refine (lowI_c _ _ (by decide) (by decide) _).mono ?_; rintro e w' ⟨rfl, rfl⟩; dsimp only))
  go_quiet ((first | (go_at_call 120; exact Calls.quiet_of_same (lowI_c _ _ (by decide) (by decide) _)) | (go_at_call 121; exact Calls.quiet_of_same (whenI_c _ _ _))))
  replace HB : Hid (Below w.heap.size w (w'.drewN nq)) := below_drewN HB.out nq
  replace BX := drewB BX nq
  clear c0 c1 c2 c3 c4 c5 c6 c7 c8 c9 c10 c11 c12 c13 c14 c15
  obtain ⟨c0, c1, c2, c3, c4, c5, c6, c7, c8, c9, c10, c11, c12, c13, c14, c15⟩ := cells16 BX
  generalize w'.drewN nq = w2 at *
  go_wp2_with (first | (go_at_call 122; refine (ac29 _ _ _ _ _ _ _ _ _ _ _ _ _ _ _ _ _ _ _ (by omega) (by omega) (by omega) (by omega) (by omega) (by omega) (by omega) (by omega) _).mono ?_; rintro e w3 ⟨rfl, hb⟩; replace HB : Hid (Below w.heap.size w w3) := HB.out.trans (hb.mono HB.out.size); clear hb; dsimp only) | ((with_reducible refine wpList_load_if rfl 47 _ rfl w.heap.size rfl 47 _ (0, 0) _ BX Tryz.underlying47 rfl (infoK _ rfl) ?_); simp only [Act.put, List.setIfInBounds_toArray, List.set_cons_succ, List.set_cons_zero]))
  go_ret2
  refine ⟨ret_tw ?_, HB.out⟩
  rw [hE.out]
  clear hE HB c0 c1 c2 c3 c4 c5 c6 c7 c8 c9 c10 c11 c12 c13 c14 c15
  replace m0 := m0.out
  replace m1 := m1.out
  replace m2 := m2.out
  omega
set_option maxRecDepth 4000 in
set_option maxHeartbeats 8000000 in
theorem en30 (S D N M A I J U F C Y : Int) (X O L : Bool) (w : World) (hr : rightB ⟨30, S, D, N, M, A, I, J, U, F, C, Y, false, X, O, L⟩ = true) :
    Calls Tryz.prog 47 #[(⟨30, S, D, N, M, A, I, J, U, F, C, Y, false, X, O, L⟩ : Ins).val] w fun e w' => e = .returned (.tuple #[.int .u32 (encV ⟨30, S, D, N, M, A, I, J, U, F, C, Y, false, X, O, L⟩).1, .bool true]) ∧ Below w.heap.size w w' := by
  have R := rightF hr
  obtain rfl : S = 0 := zero_of R.sub
  have hE := (wd30 0 D N M A I J U F C Y false X O L hr).1
  replace hE := show Hid _ from hE
  have HC := rright_c ⟨30, 0, D, N, M, A, I, J, U, F, C, Y, false, X, O, L⟩
  rw [hr] at HC
  replace HC := show Hid _ from HC
  clear R hr
  have BX := heap_alloc_new w (.cells #[vI 30, vI 0, vI D, vI N, vI M, vI A, vI I, vI J, vI U, vI F, vI C, vI Y, .bool false, .bool X, .bool O, .bool L] 47)
  have HB := below_alloc w (.cells #[vI 30, vI 0, vI D, vI N, vI M, vI A, vI I, vI J, vI U, vI F, vI C, vI Y, .bool false, .bool X, .bool O, .bool L] 47)
  have b0 : 0 ≤ lowI D 5 ∧ lowI D 5 < 32 := lowI_in _ 5
  have m0 : Hid (lowI D 5 = D % 32) := lowI_mod D 5 (by decide)
  have b1 : 0 ≤ lowI N 5 ∧ lowI N 5 < 32 := lowI_in _ 5
  have m1 : Hid (lowI N 5 = N % 32) := lowI_mod N 5 (by decide)
  have b2 : 0 ≤ lowI M 5 ∧ lowI M 5 < 32 := lowI_in _ 5
  have m2 : Hid (lowI M 5 = M % 32) := lowI_mod M 5 (by decide)
  have v0 := when_in X (x := 1073741824) (by decide)
  have e0 : whenI false 536870912 = 0 := rfl
  skip
  go_enter Tryz.func47, Tryz.ntmps47
  go_wp2_with (first | (go_at_call 119; refine (HC.out _).mono ?_; rintro e w1 ⟨rfl, hb⟩; replace BX := keepB BX hb; replace HB := thenH HB hb; clear hb HC; dsimp only; obtain ⟨c0, c1, c2, c3, c4, c5, c6, c7, c8, c9, c10, c11, c12, c13, c14, c15⟩ := cells16 BX) | ((with_reducible refine wpList_load_if rfl 47 _ rfl w.heap.size rfl 47 _ (0, 0) _ BX Tryz.underlying47 rfl (infoK _ rfl) ?_); simp only [Act.put, List.setIfInBounds_toArray, List.set_cons_succ, List.set_cons_zero]) | (go_at_call 120; refine (lowI_c _ _ (by decide) (by decide) _).mono ?_; rintro e w' ⟨rfl, rfl⟩; dsimp only))
  go_quiet ((first | (go_at_call 120; exact Calls.quiet_of_same (lowI_c _ _ (by decide) (by decide) _)) | (go_at_call 121; exact Calls.quiet_of_same (whenI_c _ _ _))))
  replace HB : Hid (Below w.heap.size w (w'.drewN nq)) := below_drewN HB.out nq
  replace BX := drewB BX nq
  clear c0 c1 c2 c3 c4 c5 c6 c7 c8 c9 c10 c11 c12 c13 c14 c15
  obtain ⟨c0, c1, c2, c3, c4, c5, c6, c7, c8, c9, c10, c11, c12, c13, c14, c15⟩ := cells16 BX
  generalize w'.drewN nq = w2 at *
  go_wp2_with (first | (go_at_call 122; refine (ac30 _ _ _ _ _ _ _ _ _ _ _ _ _ _ _ _ _ _ _ (by omega) (by omega) (by omega) (by omega) (by omega) (by omega) (by omega) (by omega) _).mono ?_; rintro e w3 ⟨rfl, hb⟩; replace HB : Hid (Below w.heap.size w w3) := HB.out.trans (hb.mono HB.out.size); clear hb; dsimp only) | ((with_reducible refine wpList_load_if rfl 47 _ rfl w.heap.size rfl 47 _ (0, 0) _ BX Tryz.underlying47 rfl (infoK _ rfl) ?_); simp only [Act.put, List.setIfInBounds_toArray, List.set_cons_succ, List.set_cons_zero]))
  go_ret2
  refine ⟨ret_tw ?_, HB.out⟩
  rw [hE.out]
  clear hE HB c0 c1 c2 c3 c4 c5 c6 c7 c8 c9 c10 c11 c12 c13 c14 c15
  replace m0 := m0.out
  replace m1 := m1.out
  replace m2 := m2.out
  omega
end Go.Proofs.YtbjcdpmhmebjnaaGreat
