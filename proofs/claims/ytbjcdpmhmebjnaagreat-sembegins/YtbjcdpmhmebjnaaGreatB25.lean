/- Encode of the document's own answer to chapter 3: contracts, an Op each. -/
import Derived.Test.YtbjcdpmhmebjnaaGreatB22
import Derived.Test.YtbjcdpmhmebjnaaGreatB23
import Derived.Test.YtbjcdpmhmebjnaaGreatB24
namespace Go.Proofs.YtbjcdpmhmebjnaaGreat
open Go.RowKit Go.Rel
set_option linter.unusedVariables false
set_option linter.unusedSimpArgs false

set_option maxRecDepth 4000 in
set_option maxHeartbeats 8000000 in
theorem en31 (S D N M A I J U F C Y : Int) (X O L : Bool) (w : World) (hr : rightB ⟨31, S, D, N, M, A, I, J, U, F, C, Y, false, X, O, L⟩ = true) :
    Calls Tryz.prog 47 #[(⟨31, S, D, N, M, A, I, J, U, F, C, Y, false, X, O, L⟩ : Ins).val] w fun e w' => e = .returned (.tuple #[.int .u32 (encV ⟨31, S, D, N, M, A, I, J, U, F, C, Y, false, X, O, L⟩).1, .bool true]) ∧ Below w.heap.size w w' := by
  have R := rightF hr
  obtain ⟨x0, y0⟩ : (0 : Int) ≤ Y ∧ Y ≤ 32767 := sys_in R.sys
  obtain rfl : S = 0 := zero_of R.sub
  have hE := (wd32 0 D N M A I J U F C Y false X O L hr).1
  replace hE := show Hid _ from hE
  have HC := rright_c ⟨31, 0, D, N, M, A, I, J, U, F, C, Y, false, X, O, L⟩
  rw [hr] at HC
  replace HC := show Hid _ from HC
  clear R hr
  have BX := heap_alloc_new w (.cells #[vI 31, vI 0, vI D, vI N, vI M, vI A, vI I, vI J, vI U, vI F, vI C, vI Y, .bool false, .bool X, .bool O, .bool L] 47)
  have HB := below_alloc w (.cells #[vI 31, vI 0, vI D, vI N, vI M, vI A, vI I, vI J, vI U, vI F, vI C, vI Y, .bool false, .bool X, .bool O, .bool L] 47)
  have b0 : 0 ≤ lowI D 5 ∧ lowI D 5 < 32 := lowI_in _ 5
  have m0 : Hid (lowI D 5 = D % 32) := lowI_mod D 5 (by decide)
  have b1 : 0 ≤ lowI N 5 ∧ lowI N 5 < 32 := lowI_in _ 5
  have m1 : Hid (lowI N 5 = N % 32) := lowI_mod N 5 (by decide)
  have b2 : 0 ≤ lowI M 5 ∧ lowI M 5 < 32 := lowI_in _ 5
  have m2 : Hid (lowI M 5 = M % 32) := lowI_mod M 5 (by decide)
  have v0 := when_in X (x := 1073741824) (by decide)
  have e0 : whenI false 536870912 = 0 := rfl
  skip
  go_enter Tryz.func47, Tryz.ntmps47
  go_wp2_with (first | (go_at_call 119; refine (HC.out _).mono ?_; rintro e w1 ⟨rfl, hb⟩; replace BX := keepB BX hb; replace HB := thenH HB hb; clear hb HC; dsimp only; obtain ⟨c0, c1, c2, c3, c4, c5, c6, c7, c8, c9, c10, c11, c12, c13, c14, c15⟩ := cells16 BX) | ((with_reducible refine wpList_load_if rfl 47 _ rfl w.heap.size rfl 47 _ (0, 0) _ BX Tryz.underlying47 rfl (infoK _ rfl) ?_); simp only [Act.put, List.setIfInBounds_toArray, List.set_cons_succ, List.set_cons_zero]) | (go_at_call 120; refine (lowI_c _ _ (by decide) (by decide) _).mono ?_; rintro e w' ⟨rfl, rfl⟩; dsimp only))
  go_quiet ((first | (go_at_call 120; exact Calls.quiet_of_same (lowI_c _ _ (by decide) (by decide) _)) | (go_at_call 121; exact Calls.quiet_of_same (whenI_c _ _ _))))
  replace HB : Hid (Below w.heap.size w (w'.drewN nq)) := below_drewN HB.out nq
  replace BX := drewB BX nq
  clear c0 c1 c2 c3 c4 c5 c6 c7 c8 c9 c10 c11 c12 c13 c14 c15
  obtain ⟨c0, c1, c2, c3, c4, c5, c6, c7, c8, c9, c10, c11, c12, c13, c14, c15⟩ := cells16 BX
  generalize w'.drewN nq = w2 at *
  go_wp2_with (first | (go_at_call 122; refine (ac31 _ _ _ _ _ _ _ _ _ _ _ _ _ _ _ _ _ _ _ (by omega) (by omega) (by omega) (by omega) (by omega) (by omega) (by omega) (by omega) (by omega) (by omega) _).mono ?_; rintro e w3 ⟨rfl, hb⟩; replace HB : Hid (Below w.heap.size w w3) := HB.out.trans (hb.mono HB.out.size); clear hb; dsimp only) | ((with_reducible refine wpList_load_if rfl 47 _ rfl w.heap.size rfl 47 _ (0, 0) _ BX Tryz.underlying47 rfl (infoK _ rfl) ?_); simp only [Act.put, List.setIfInBounds_toArray, List.set_cons_succ, List.set_cons_zero]))
  go_ret2
  refine ⟨ret_tw ?_, HB.out⟩
  rw [hE.out]
  clear hE HB c0 c1 c2 c3 c4 c5 c6 c7 c8 c9 c10 c11 c12 c13 c14 c15
  replace m0 := m0.out
  replace m1 := m1.out
  replace m2 := m2.out
  omega
set_option maxRecDepth 4000 in
set_option maxHeartbeats 8000000 in
theorem en32 (S D N M A I J U F C Y : Int) (X O L : Bool) (w : World) (hr : rightB ⟨32, S, D, N, M, A, I, J, U, F, C, Y, false, X, O, L⟩ = true) :
    Calls Tryz.prog 47 #[(⟨32, S, D, N, M, A, I, J, U, F, C, Y, false, X, O, L⟩ : Ins).val] w fun e w' => e = .returned (.tuple #[.int .u32 (encV ⟨32, S, D, N, M, A, I, J, U, F, C, Y, false, X, O, L⟩).1, .bool true]) ∧ Below w.heap.size w w' := by
  have R := rightF hr
  obtain ⟨x0, y0⟩ : (0 : Int) ≤ Y ∧ Y ≤ 32767 := sys_in R.sys
  obtain rfl : S = 0 := zero_of R.sub
  have hE := (wd33 0 D N M A I J U F C Y false X O L hr).1
  replace hE := show Hid _ from hE
  have HC := rright_c ⟨32, 0, D, N, M, A, I, J, U, F, C, Y, false, X, O, L⟩
  rw [hr] at HC
  replace HC := show Hid _ from HC
  clear R hr
  have BX := heap_alloc_new w (.cells #[vI 32, vI 0, vI D, vI N, vI M, vI A, vI I, vI J, vI U, vI F, vI C, vI Y, .bool false, .bool X, .bool O, .bool L] 47)
  have HB := below_alloc w (.cells #[vI 32, vI 0, vI D, vI N, vI M, vI A, vI I, vI J, vI U, vI F, vI C, vI Y, .bool false, .bool X, .bool O, .bool L] 47)
  have b0 : 0 ≤ lowI D 5 ∧ lowI D 5 < 32 := lowI_in _ 5
  have m0 : Hid (lowI D 5 = D % 32) := lowI_mod D 5 (by decide)
  have b1 : 0 ≤ lowI N 5 ∧ lowI N 5 < 32 := lowI_in _ 5
  have m1 : Hid (lowI N 5 = N % 32) := lowI_mod N 5 (by decide)
  have b2 : 0 ≤ lowI M 5 ∧ lowI M 5 < 32 := lowI_in _ 5
  have m2 : Hid (lowI M 5 = M % 32) := lowI_mod M 5 (by decide)
  have v0 := when_in X (x := 1073741824) (by decide)
  have e0 : whenI false 536870912 = 0 := rfl
  skip
  go_enter Tryz.func47, Tryz.ntmps47
  go_wp2_with (first | (go_at_call 119; refine (HC.out _).mono ?_; rintro e w1 ⟨rfl, hb⟩; replace BX := keepB BX hb; replace HB := thenH HB hb; clear hb HC; dsimp only; obtain ⟨c0, c1, c2, c3, c4, c5, c6, c7, c8, c9, c10, c11, c12, c13, c14, c15⟩ := cells16 BX) | ((with_reducible refine wpList_load_if rfl 47 _ rfl w.heap.size rfl 47 _ (0, 0) _ BX Tryz.underlying47 rfl (infoK _ rfl) ?_); simp only [Act.put, List.setIfInBounds_toArray, List.set_cons_succ, List.set_cons_zero]) | (go_at_call 120; refine (lowI_c _ _ (by decide) (by decide) _).mono ?_; rintro e w' ⟨rfl, rfl⟩; dsimp only))
  go_quiet ((first | (go_at_call 120; exact Calls.quiet_of_same (lowI_c _ _ (by decide) (by decide) _)) | (go_at_call 121; exact Calls.quiet_of_same (whenI_c _ _ _))))
  replace HB : Hid (Below w.heap.size w (w'.drewN nq)) := below_drewN HB.out nq
  replace BX := drewB BX nq
  clear c0 c1 c2 c3 c4 c5 c6 c7 c8 c9 c10 c11 c12 c13 c14 c15
  obtain ⟨c0, c1, c2, c3, c4, c5, c6, c7, c8, c9, c10, c11, c12, c13, c14, c15⟩ := cells16 BX
  generalize w'.drewN nq = w2 at *
  go_wp2_with (first | (go_at_call 122; refine (ac32 _ _ _ _ _ _ _ _ _ _ _ _ _ _ _ _ _ _ _ (by omega) (by omega) (by omega) (by omega) (by omega) (by omega) (by omega) (by omega) (by omega) (by omega) _).mono ?_; rintro e w3 ⟨rfl, hb⟩; replace HB : Hid (Below w.heap.size w w3) := HB.out.trans (hb.mono HB.out.size); clear hb; dsimp only) | ((with_reducible refine wpList_load_if rfl 47 _ rfl w.heap.size rfl 47 _ (0, 0) _ BX Tryz.underlying47 rfl (infoK _ rfl) ?_); simp only [Act.put, List.setIfInBounds_toArray, List.set_cons_succ, List.set_cons_zero]))
  go_ret2
  refine ⟨ret_tw ?_, HB.out⟩
  rw [hE.out]
  clear hE HB c0 c1 c2 c3 c4 c5 c6 c7 c8 c9 c10 c11 c12 c13 c14 c15
  replace m0 := m0.out
  replace m1 := m1.out
  replace m2 := m2.out
  omega
set_option maxRecDepth 4000 in
set_option maxHeartbeats 8000000 in
theorem en33_0 (D N M A I J U F C Y : Int) (X O L : Bool) (w : World) (hr : rightB ⟨33, 0, D, N, M, A, I, J, U, F, C, Y, false, X, O, L⟩ = true) :
    Calls Tryz.prog 47 #[(⟨33, 0, D, N, M, A, I, J, U, F, C, Y, false, X, O, L⟩ : Ins).val] w fun e w' => e = .returned (.tuple #[.int .u32 (encV ⟨33, 0, D, N, M, A, I, J, U, F, C, Y, false, X, O, L⟩).1, .bool true]) ∧ Below w.heap.size w w' := by
  have R := rightF hr
  obtain ⟨x0, y0, z0⟩ := holds_of (lo := 0) (hi := 15) (st := 1) (n := I) R.imm
  clear z0
  have hE := (wd34 0 D N M A I J U F C Y false X O L hr).1
  replace hE := show Hid _ from hE
  have HC := rright_c ⟨33, 0, D, N, M, A, I, J, U, F, C, Y, false, X, O, L⟩
  rw [hr] at HC
  replace HC := show Hid _ from HC
  clear R hr
  have BX := heap_alloc_new w (.cells #[vI 33, vI 0, vI D, vI N, vI M, vI A, vI I, vI J, vI U, vI F, vI C, vI Y, .bool false, .bool X, .bool O, .bool L] 47)
  have HB := below_alloc w (.cells #[vI 33, vI 0, vI D, vI N, vI M, vI A, vI I, vI J, vI U, vI F, vI C, vI Y, .bool false, .bool X, .bool O, .bool L] 47)
  have b0 : 0 ≤ lowI D 5 ∧ lowI D 5 < 32 := lowI_in _ 5
  have m0 : Hid (lowI D 5 = D % 32) := lowI_mod D 5 (by decide)
  have b1 : 0 ≤ lowI N 5 ∧ lowI N 5 < 32 := lowI_in _ 5
  have m1 : Hid (lowI N 5 = N % 32) := lowI_mod N 5 (by decide)
  have b2 : 0 ≤ lowI M 5 ∧ lowI M 5 < 32 := lowI_in _ 5
  have m2 : Hid (lowI M 5 = M % 32) := lowI_mod M 5 (by decide)
  have v0 := when_in X (x := 1073741824) (by decide)
  have e0 : whenI false 536870912 = 0 := rfl
  skip
  go_enter Tryz.func47, Tryz.ntmps47
  go_wp2_with (first | (go_at_call 119; refine (HC.out _).mono ?_; rintro e w1 ⟨rfl, hb⟩; replace BX := keepB BX hb; replace HB := thenH HB hb; clear hb HC; dsimp only; obtain ⟨c0, c1, c2, c3, c4, c5, c6, c7, c8, c9, c10, c11, c12, c13, c14, c15⟩ := cells16 BX) | ((with_reducible refine wpList_load_if rfl 47 _ rfl w.heap.size rfl 47 _ (0, 0) _ BX Tryz.underlying47 rfl (infoK _ rfl) ?_); simp only [Act.put, List.setIfInBounds_toArray, List.set_cons_succ, List.set_cons_zero]) | (go_at_call 120; refine (lowI_c _ _ (by decide) (by decide) _).mono ?_; rintro e w' ⟨rfl, rfl⟩; dsimp only))
  go_quiet ((first | (go_at_call 120; exact Calls.quiet_of_same (lowI_c _ _ (by decide) (by decide) _)) | (go_at_call 121; exact Calls.quiet_of_same (whenI_c _ _ _))))
  replace HB : Hid (Below w.heap.size w (w'.drewN nq)) := below_drewN HB.out nq
  replace BX := drewB BX nq
  clear c0 c1 c2 c3 c4 c5 c6 c7 c8 c9 c10 c11 c12 c13 c14 c15
  obtain ⟨c0, c1, c2, c3, c4, c5, c6, c7, c8, c9, c10, c11, c12, c13, c14, c15⟩ := cells16 BX
  generalize w'.drewN nq = w2 at *
  go_wp2_with (first | (go_at_call 122; refine (ac33 _ _ _ _ _ _ _ _ _ _ _ _ _ _ _ _ _ _ _ (by omega) (by omega) (by omega) (by omega) (by omega) (by omega) (by omega) (by omega) (by omega) (by omega) _).mono ?_; rintro e w3 ⟨rfl, hb⟩; replace HB : Hid (Below w.heap.size w w3) := HB.out.trans (hb.mono HB.out.size); clear hb; dsimp only) | ((with_reducible refine wpList_load_if rfl 47 _ rfl w.heap.size rfl 47 _ (0, 0) _ BX Tryz.underlying47 rfl (infoK _ rfl) ?_); simp only [Act.put, List.setIfInBounds_toArray, List.set_cons_succ, List.set_cons_zero]))
  go_ret2
  refine ⟨ret_tw ?_, HB.out⟩
  rw [hE.out]
  clear hE HB c0 c1 c2 c3 c4 c5 c6 c7 c8 c9 c10 c11 c12 c13 c14 c15
  replace m0 := m0.out
  replace m1 := m1.out
  replace m2 := m2.out
  omega
set_option maxRecDepth 4000 in
set_option maxHeartbeats 8000000 in
theorem en33_1 (D N M A I J U F C Y : Int) (X O L : Bool) (w : World) (hr : rightB ⟨33, 1, D, N, M, A, I, J, U, F, C, Y, false, X, O, L⟩ = true) :
    Calls Tryz.prog 47 #[(⟨33, 1, D, N, M, A, I, J, U, F, C, Y, false, X, O, L⟩ : Ins).val] w fun e w' => e = .returned (.tuple #[.int .u32 (encV ⟨33, 1, D, N, M, A, I, J, U, F, C, Y, false, X, O, L⟩).1, .bool true]) ∧ Below w.heap.size w w' := by
  have R := rightF hr
  obtain ⟨x0, y0, z0⟩ := holds_of (lo := 0) (hi := 15) (st := 1) (n := I) R.imm
  clear z0
  have hE := (wd35 1 D N M A I J U F C Y false X O L hr).1
  replace hE := show Hid _ from hE
  have HC := rright_c ⟨33, 1, D, N, M, A, I, J, U, F, C, Y, false, X, O, L⟩
  rw [hr] at HC
  replace HC := show Hid _ from HC
  clear R hr
  have BX := heap_alloc_new w (.cells #[vI 33, vI 1, vI D, vI N, vI M, vI A, vI I, vI J, vI U, vI F, vI C, vI Y, .bool false, .bool X, .bool O, .bool L] 47)
  have HB := below_alloc w (.cells #[vI 33, vI 1, vI D, vI N, vI M, vI A, vI I, vI J, vI U, vI F, vI C, vI Y, .bool false, .bool X, .bool O, .bool L] 47)
  have b0 : 0 ≤ lowI D 5 ∧ lowI D 5 < 32 := lowI_in _ 5
  have m0 : Hid (lowI D 5 = D % 32) := lowI_mod D 5 (by decide)
  have b1 : 0 ≤ lowI N 5 ∧ lowI N 5 < 32 := lowI_in _ 5
  have m1 : Hid (lowI N 5 = N % 32) := lowI_mod N 5 (by decide)
  have b2 : 0 ≤ lowI M 5 ∧ lowI M 5 < 32 := lowI_in _ 5
  have m2 : Hid (lowI M 5 = M % 32) := lowI_mod M 5 (by decide)
  have v0 := when_in X (x := 1073741824) (by decide)
  have e0 : whenI false 536870912 = 0 := rfl
  skip
  go_enter Tryz.func47, Tryz.ntmps47
  go_wp2_with (first | (go_at_call 119; refine (HC.out _).mono ?_; rintro e w1 ⟨rfl, hb⟩; replace BX := keepB BX hb; replace HB := thenH HB hb; clear hb HC; dsimp only; obtain ⟨c0, c1, c2, c3, c4, c5, c6, c7, c8, c9, c10, c11, c12, c13, c14, c15⟩ := cells16 BX) | ((with_reducible refine wpList_load_if rfl 47 _ rfl w.heap.size rfl 47 _ (0, 0) _ BX Tryz.underlying47 rfl (infoK _ rfl) ?_); simp only [Act.put, List.setIfInBounds_toArray, List.set_cons_succ, List.set_cons_zero]) | (go_at_call 120; refine (lowI_c _ _ (by decide) (by decide) _).mono ?_; rintro e w' ⟨rfl, rfl⟩; dsimp only))
  go_quiet ((first | (go_at_call 120; exact Calls.quiet_of_same (lowI_c _ _ (by decide) (by decide) _)) | (go_at_call 121; exact Calls.quiet_of_same (whenI_c _ _ _))))
  replace HB : Hid (Below w.heap.size w (w'.drewN nq)) := below_drewN HB.out nq
  replace BX := drewB BX nq
  clear c0 c1 c2 c3 c4 c5 c6 c7 c8 c9 c10 c11 c12 c13 c14 c15
  obtain ⟨c0, c1, c2, c3, c4, c5, c6, c7, c8, c9, c10, c11, c12, c13, c14, c15⟩ := cells16 BX
  generalize w'.drewN nq = w2 at *
  go_wp2_with (first | (go_at_call 122; refine (ac33 _ _ _ _ _ _ _ _ _ _ _ _ _ _ _ _ _ _ _ (by omega) (by omega) (by omega) (by omega) (by omega) (by omega) (by omega) (by omega) (by omega) (by omega) _).mono ?_; rintro e w3 ⟨rfl, hb⟩; replace HB : Hid (Below w.heap.size w w3) := HB.out.trans (hb.mono HB.out.size); clear hb; dsimp only) | ((with_reducible refine wpList_load_if rfl 47 _ rfl w.heap.size rfl 47 _ (0, 0) _ BX Tryz.underlying47 rfl (infoK _ rfl) ?_); simp only [Act.put, List.setIfInBounds_toArray, List.set_cons_succ, List.set_cons_zero]))
  go_ret2
  refine ⟨ret_tw ?_, HB.out⟩
  rw [hE.out]
  clear hE HB c0 c1 c2 c3 c4 c5 c6 c7 c8 c9 c10 c11 c12 c13 c14 c15
  replace m0 := m0.out
  replace m1 := m1.out
  replace m2 := m2.out
  omega
set_option maxRecDepth 4000 in
set_option maxHeartbeats 8000000 in
theorem en34 (S D N M A I J U F C Y : Int) (X O L : Bool) (w : World) (hr : rightB ⟨34, S, D, N, M, A, I, J, U, F, C, Y, false, X, O, L⟩ = true) :
    Calls Tryz.prog 47 #[(⟨34, S, D, N, M, A, I, J, U, F, C, Y, false, X, O, L⟩ : Ins).val] w fun e w' => e = .returned (.tuple #[.int .u32 (encV ⟨34, S, D, N, M, A, I, J, U, F, C, Y, false, X, O, L⟩).1, .bool true]) ∧ Below w.heap.size w w' := by
  have R := rightF hr
  obtain ⟨x0, y0, z0⟩ := holds_of (lo := 0) (hi := 65535) (st := 1) (n := I) R.imm
  clear z0
  obtain rfl : S = 0 := zero_of R.sub
  have hE := (wd36 0 D N M A I J U F C Y false X O L hr).1
  replace hE := show Hid _ from hE
  have HC := rright_c ⟨34, 0, D, N, M, A, I, J, U, F, C, Y, false, X, O, L⟩
  rw [hr] at HC
  replace HC := show Hid _ from HC
  clear R hr
  have BX := heap_alloc_new w (.cells #[vI 34, vI 0, vI D, vI N, vI M, vI A, vI I, vI J, vI U, vI F, vI C, vI Y, .bool false, .bool X, .bool O, .bool L] 47)
  have HB := below_alloc w (.cells #[vI 34, vI 0, vI D, vI N, vI M, vI A, vI I, vI J, vI U, vI F, vI C, vI Y, .bool false, .bool X, .bool O, .bool L] 47)
  have b0 : 0 ≤ lowI D 5 ∧ lowI D 5 < 32 := lowI_in _ 5
  have m0 : Hid (lowI D 5 = D % 32) := lowI_mod D 5 (by decide)
  have b1 : 0 ≤ lowI N 5 ∧ lowI N 5 < 32 := lowI_in _ 5
  have m1 : Hid (lowI N 5 = N % 32) := lowI_mod N 5 (by decide)
  have b2 : 0 ≤ lowI M 5 ∧ lowI M 5 < 32 := lowI_in _ 5
  have m2 : Hid (lowI M 5 = M % 32) := lowI_mod M 5 (by decide)
  have v0 := when_in X (x := 1073741824) (by decide)
  have e0 : whenI false 536870912 = 0 := rfl
  skip
  go_enter Tryz.func47, Tryz.ntmps47
  go_wp2_with (first | (go_at_call 119; refine (HC.out _).mono ?_; rintro e w1 ⟨rfl, hb⟩; replace BX := keepB BX hb; replace HB := thenH HB hb; clear hb HC; dsimp only; obtain ⟨c0, c1, c2, c3, c4, c5, c6, c7, c8, c9, c10, c11, c12, c13, c14, c15⟩ := cells16 BX) | ((with_reducible refine wpList_load_if rfl 47 _ rfl w.heap.size rfl 47 _ (0, 0) _ BX Tryz.underlying47 rfl (infoK _ rfl) ?_); simp only [Act.put, List.setIfInBounds_toArray, List.set_cons_succ, List.set_cons_zero]) | (go_at_call 120; refine (lowI_c _ _ (by decide) (by decide) _).mono ?_; rintro e w' ⟨rfl, rfl⟩; dsimp only))
  go_quiet ((first | (go_at_call 120; exact Calls.quiet_of_same (lowI_c _ _ (by decide) (by decide) _)) | (go_at_call 121; exact Calls.quiet_of_same (whenI_c _ _ _))))
  replace HB : Hid (Below w.heap.size w (w'.drewN nq)) := below_drewN HB.out nq
  replace BX := drewB BX nq
  clear c0 c1 c2 c3 c4 c5 c6 c7 c8 c9 c10 c11 c12 c13 c14 c15
  obtain ⟨c0, c1, c2, c3, c4, c5, c6, c7, c8, c9, c10, c11, c12, c13, c14, c15⟩ := cells16 BX
  generalize w'.drewN nq = w2 at *
  go_wp2_with (first | (go_at_call 122; refine (ac34 _ _ _ _ _ _ _ _ _ _ _ _ _ _ _ _ _ _ _ (by omega) (by omega) (by omega) (by omega) (by omega) (by omega) (by omega) (by omega) (by omega) (by omega) _).mono ?_; rintro e w3 ⟨rfl, hb⟩; replace HB : Hid (Below w.heap.size w w3) := HB.out.trans (hb.mono HB.out.size); clear hb; dsimp only) | ((with_reducible refine wpList_load_if rfl 47 _ rfl w.heap.size rfl 47 _ (0, 0) _ BX Tryz.underlying47 rfl (infoK _ rfl) ?_); simp only [Act.put, List.setIfInBounds_toArray, List.set_cons_succ, List.set_cons_zero]))
  go_ret2
  refine ⟨ret_tw ?_, HB.out⟩
  rw [hE.out]
  clear hE HB c0 c1 c2 c3 c4 c5 c6 c7 c8 c9 c10 c11 c12 c13 c14 c15
  replace m0 := m0.out
  replace m1 := m1.out
  replace m2 := m2.out
  omega
set_option maxRecDepth 4000 in
set_option maxHeartbeats 8000000 in
theorem en35 (S D N M A I J U F C Y : Int) (X O L : Bool) (w : World) (hr : rightB ⟨35, S, D, N, M, A, I, J, U, F, C, Y, false, X, O, L⟩ = true) :
    Calls Tryz.prog 47 #[(⟨35, S, D, N, M, A, I, J, U, F, C, Y, false, X, O, L⟩ : Ins).val] w fun e w' => e = .returned (.tuple #[.int .u32 (encV ⟨35, S, D, N, M, A, I, J, U, F, C, Y, false, X, O, L⟩).1, .bool true]) ∧ Below w.heap.size w w' := by
  have R := rightF hr
  obtain ⟨x0, y0, z0⟩ := holds_of (lo := 0) (hi := 65535) (st := 1) (n := I) R.imm
  clear z0
  obtain rfl : S = 0 := zero_of R.sub
  have hE := (wd37 0 D N M A I J U F C Y false X O L hr).1
  replace hE := show Hid _ from hE
  have HC := rright_c ⟨35, 0, D, N, M, A, I, J, U, F, C, Y, false, X, O, L⟩
  rw [hr] at HC
  replace HC := show Hid _ from HC
  clear R hr
  have BX := heap_alloc_new w (.cells #[vI 35, vI 0, vI D, vI N, vI M, vI A, vI I, vI J, vI U, vI F, vI C, vI Y, .bool false, .bool X, .bool O, .bool L] 47)
  have HB := below_alloc w (.cells #[vI 35, vI 0, vI D, vI N, vI M, vI A, vI I, vI J, vI U, vI F, vI C, vI Y, .bool false, .bool X, .bool O, .bool L] 47)
  have b0 : 0 ≤ lowI D 5 ∧ lowI D 5 < 32 := lowI_in _ 5
  have m0 : Hid (lowI D 5 = D % 32) := lowI_mod D 5 (by decide)
  have b1 : 0 ≤ lowI N 5 ∧ lowI N 5 < 32 := lowI_in _ 5
  have m1 : Hid (lowI N 5 = N % 32) := lowI_mod N 5 (by decide)
  have b2 : 0 ≤ lowI M 5 ∧ lowI M 5 < 32 := lowI_in _ 5
  have m2 : Hid (lowI M 5 = M % 32) := lowI_mod M 5 (by decide)
  have v0 := when_in X (x := 1073741824) (by decide)
  have e0 : whenI false 536870912 = 0 := rfl
  skip
  go_enter Tryz.func47, Tryz.ntmps47
  go_wp2_with (first | (go_at_call 119; refine (HC.out _).mono ?_; rintro e w1 ⟨rfl, hb⟩; replace BX := keepB BX hb; replace HB := thenH HB hb; clear hb HC; dsimp only; obtain ⟨c0, c1, c2, c3, c4, c5, c6, c7, c8, c9, c10, c11, c12, c13, c14, c15⟩ := cells16 BX) | ((with_reducible refine wpList_load_if rfl 47 _ rfl w.heap.size rfl 47 _ (0, 0) _ BX Tryz.underlying47 rfl (infoK _ rfl) ?_); simp only [Act.put, List.setIfInBounds_toArray, List.set_cons_succ, List.set_cons_zero]) | (go_at_call 120; refine (lowI_c _ _ (by decide) (by decide) _).mono ?_; rintro e w' ⟨rfl, rfl⟩; dsimp only))
  go_quiet ((first | (go_at_call 120; exact Calls.quiet_of_same (lowI_c _ _ (by decide) (by decide) _)) | (go_at_call 121; exact Calls.quiet_of_same (whenI_c _ _ _))))
  replace HB : Hid (Below w.heap.size w (w'.drewN nq)) := below_drewN HB.out nq
  replace BX := drewB BX nq
  clear c0 c1 c2 c3 c4 c5 c6 c7 c8 c9 c10 c11 c12 c13 c14 c15
  obtain ⟨c0, c1, c2, c3, c4, c5, c6, c7, c8, c9, c10, c11, c12, c13, c14, c15⟩ := cells16 BX
  generalize w'.drewN nq = w2 at *
  go_wp2_with (first | (go_at_call 122; refine (ac35 _ _ _ _ _ _ _ _ _ _ _ _ _ _ _ _ _ _ _ (by omega) (by omega) (by omega) (by omega) (by omega) (by omega) (by omega) (by omega) (by omega) (by omega) _).mono ?_; rintro e w3 ⟨rfl, hb⟩; replace HB : Hid (Below w.heap.size w w3) := HB.out.trans (hb.mono HB.out.size); clear hb; dsimp only) | ((with_reducible refine wpList_load_if rfl 47 _ rfl w.heap.size rfl 47 _ (0, 0) _ BX Tryz.underlying47 rfl (infoK _ rfl) ?_); simp only [Act.put, List.setIfInBounds_toArray, List.set_cons_succ, List.set_cons_zero]))
  go_ret2
  refine ⟨ret_tw ?_, HB.out⟩
  rw [hE.out]
  clear hE HB c0 c1 c2 c3 c4 c5 c6 c7 c8 c9 c10 c11 c12 c13 c14 c15
  replace m0 := m0.out
  replace m1 := m1.out
  replace m2 := m2.out
  omega
set_option maxRecDepth 4000 in
set_option maxHeartbeats 8000000 in
theorem en36 (S D N M A I J U F C Y : Int) (X O L : Bool) (w : World) (hr : rightB ⟨36, S, D, N, M, A, I, J, U, F, C, Y, false, X, O, L⟩ = true) :
    Calls Tryz.prog 47 #[(⟨36, S, D, N, M, A, I, J, U, F, C, Y, false, X, O, L⟩ : Ins).val] w fun e w' => e = .returned (.tuple #[.int .u32 (encV ⟨36, S, D, N, M, A, I, J, U, F, C, Y, false, X, O, L⟩).1, .bool true]) ∧ Below w.heap.size w w' := by
  have R := rightF hr
  obtain rfl : S = 0 := zero_of R.sub
  have hE := (wd38 0 D N M A I J U F C Y false X O L hr).1
  replace hE := show Hid _ from hE
  have HC := rright_c ⟨36, 0, D, N, M, A, I, J, U, F, C, Y, false, X, O, L⟩
  rw [hr] at HC
  replace HC := show Hid _ from HC
  clear R hr
  have BX := heap_alloc_new w (.cells #[vI 36, vI 0, vI D, vI N, vI M, vI A, vI I, vI J, vI U, vI F, vI C, vI Y, .bool false, .bool X, .bool O, .bool L] 47)
  have HB := below_alloc w (.cells #[vI 36, vI 0, vI D, vI N, vI M, vI A, vI I, vI J, vI U, vI F, vI C, vI Y, .bool false, .bool X, .bool O, .bool L] 47)
  have b0 : 0 ≤ lowI D 5 ∧ lowI D 5 < 32 := lowI_in _ 5
  have m0 : Hid (lowI D 5 = D % 32) := lowI_mod D 5 (by decide)
  have b1 : 0 ≤ lowI N 5 ∧ lowI N 5 < 32 := lowI_in _ 5
  have m1 : Hid (lowI N 5 = N % 32) := lowI_mod N 5 (by decide)
  have b2 : 0 ≤ lowI M 5 ∧ lowI M 5 < 32 := lowI_in _ 5
  have m2 : Hid (lowI M 5 = M % 32) := lowI_mod M 5 (by decide)
  have v0 := when_in X (x := 1073741824) (by decide)
  have e0 : whenI false 536870912 = 0 := rfl
  skip
  go_enter Tryz.func47, Tryz.ntmps47
  go_wp2_with (first | (go_at_call 119; refine (HC.out _).mono ?_; rintro e w1 ⟨rfl, hb⟩; replace BX := keepB BX hb; replace HB := thenH HB hb; clear hb HC; dsimp only; obtain ⟨c0, c1, c2, c3, c4, c5, c6, c7, c8, c9, c10, c11, c12, c13, c14, c15⟩ := cells16 BX) | ((with_reducible refine wpList_load_if rfl 47 _ rfl w.heap.size rfl 47 _ (0, 0) _ BX Tryz.underlying47 rfl (infoK _ rfl) ?_); simp only [Act.put, List.setIfInBounds_toArray, List.set_cons_succ, List.set_cons_zero]) | (go_at_call 120; refine (lowI_c _ _ (by decide) (by decide) _).mono ?_; rintro e w' ⟨rfl, rfl⟩; dsimp only))
  go_quiet ((first | (go_at_call 120; exact Calls.quiet_of_same (lowI_c _ _ (by decide) (by decide) _)) | (go_at_call 121; exact Calls.quiet_of_same (whenI_c _ _ _))))
  replace HB : Hid (Below w.heap.size w (w'.drewN nq)) := below_drewN HB.out nq
  replace BX := drewB BX nq
  clear c0 c1 c2 c3 c4 c5 c6 c7 c8 c9 c10 c11 c12 c13 c14 c15
  obtain ⟨c0, c1, c2, c3, c4, c5, c6, c7, c8, c9, c10, c11, c12, c13, c14, c15⟩ := cells16 BX
  generalize w'.drewN nq = w2 at *
  go_wp2_with (first | (go_at_call 122; refine (ac36 _ _ _ _ _ _ _ _ _ _ _ _ _ _ _ _ _ _ _ (by omega) (by omega) (by omega) (by omega) (by omega) (by omega) (by omega) (by omega) _).mono ?_; rintro e w3 ⟨rfl, hb⟩; replace HB : Hid (Below w.heap.size w w3) := HB.out.trans (hb.mono HB.out.size); clear hb; dsimp only) | ((with_reducible refine wpList_load_if rfl 47 _ rfl w.heap.size rfl 47 _ (0, 0) _ BX Tryz.underlying47 rfl (infoK _ rfl) ?_); simp only [Act.put, List.setIfInBounds_toArray, List.set_cons_succ, List.set_cons_zero]))
  go_ret2
  refine ⟨ret_tw ?_, HB.out⟩
  rw [hE.out]
  clear hE HB c0 c1 c2 c3 c4 c5 c6 c7 c8 c9 c10 c11 c12 c13 c14 c15
  replace m0 := m0.out
  replace m1 := m1.out
  replace m2 := m2.out
  omega
set_option maxRecDepth 4000 in
set_option maxHeartbeats 8000000 in
theorem en37 (S D N M A I J U F C Y : Int) (X O L : Bool) (w : World) (hr : rightB ⟨37, S, D, N, M, A, I, J, U, F, C, Y, false, X, O, L⟩ = true) :
    Calls Tryz.prog 47 #[(⟨37, S, D, N, M, A, I, J, U, F, C, Y, false, X, O, L⟩ : Ins).val] w fun e w' => e = .returned (.tuple #[.int .u32 (encV ⟨37, S, D, N, M, A, I, J, U, F, C, Y, false, X, O, L⟩).1, .bool true]) ∧ Below w.heap.size w w' := by
  have R := rightF hr
  obtain ⟨x0, y0, z0⟩ := holds_of (lo := 0) (hi := 5) (st := 1) (n := I) R.imm
  clear z0
  obtain rfl : S = 0 := zero_of R.sub
  have hE := (wd39 0 D N M A I J U F C Y false X O L hr).1
  replace hE := show Hid _ from hE
  have HC := rright_c ⟨37, 0, D, N, M, A, I, J, U, F, C, Y, false, X, O, L⟩
  rw [hr] at HC
  replace HC := show Hid _ from HC
  clear R hr
  have BX := heap_alloc_new w (.cells #[vI 37, vI 0, vI D, vI N, vI M, vI A, vI I, vI J, vI U, vI F, vI C, vI Y, .bool false, .bool X, .bool O, .bool L] 47)
  have HB := below_alloc w (.cells #[vI 37, vI 0, vI D, vI N, vI M, vI A, vI I, vI J, vI U, vI F, vI C, vI Y, .bool false, .bool X, .bool O, .bool L] 47)
  have b0 : 0 ≤ lowI D 5 ∧ lowI D 5 < 32 := lowI_in _ 5
  have m0 : Hid (lowI D 5 = D % 32) := lowI_mod D 5 (by decide)
  have b1 : 0 ≤ lowI N 5 ∧ lowI N 5 < 32 := lowI_in _ 5
  have m1 : Hid (lowI N 5 = N % 32) := lowI_mod N 5 (by decide)
  have b2 : 0 ≤ lowI M 5 ∧ lowI M 5 < 32 := lowI_in _ 5
  have m2 : Hid (lowI M 5 = M % 32) := lowI_mod M 5 (by decide)
  have v0 := when_in X (x := 1073741824) (by decide)
  have e0 : whenI false 536870912 = 0 := rfl
  skip
  go_enter Tryz.func47, Tryz.ntmps47
  go_wp2_with (first | (go_at_call 119; refine (HC.out _).mono ?_; rintro e w1 ⟨rfl, hb⟩; replace BX := keepB BX hb; replace HB := thenH HB hb; clear hb HC; dsimp only; obtain ⟨c0, c1, c2, c3, c4, c5, c6, c7, c8, c9, c10, c11, c12, c13, c14, c15⟩ := cells16 BX) | ((with_reducible refine wpList_load_if rfl 47 _ rfl w.heap.size rfl 47 _ (0, 0) _ BX Tryz.underlying47 rfl (infoK _ rfl) ?_); simp only [Act.put, List.setIfInBounds_toArray, List.set_cons_succ, List.set_cons_zero]) | (go_at_call 120; refine (lowI_c _ _ (by decide) (by decide) _).mono ?_; rintro e w' ⟨rfl, rfl⟩; dsimp only))
  go_quiet ((first | (go_at_call 120; exact Calls.quiet_of_same (lowI_c _ _ (by decide) (by decide) _)) | (go_at_call 121; exact Calls.quiet_of_same (whenI_c _ _ _))))
  replace HB : Hid (Below w.heap.size w (w'.drewN nq)) := below_drewN HB.out nq
  replace BX := drewB BX nq
  clear c0 c1 c2 c3 c4 c5 c6 c7 c8 c9 c10 c11 c12 c13 c14 c15
  obtain ⟨c0, c1, c2, c3, c4, c5, c6, c7, c8, c9, c10, c11, c12, c13, c14, c15⟩ := cells16 BX
  generalize w'.drewN nq = w2 at *
  go_wp2_with (first | (go_at_call 122; refine (ac37 _ _ _ _ _ _ _ _ _ _ _ _ _ _ _ _ _ _ _ (by omega) (by omega) (by omega) (by omega) (by omega) (by omega) (by omega) (by omega) (by omega) (by omega) _).mono ?_; rintro e w3 ⟨rfl, hb⟩; replace HB : Hid (Below w.heap.size w w3) := HB.out.trans (hb.mono HB.out.size); clear hb; dsimp only) | ((with_reducible refine wpList_load_if rfl 47 _ rfl w.heap.size rfl 47 _ (0, 0) _ BX Tryz.underlying47 rfl (infoK _ rfl) ?_); simp only [Act.put, List.setIfInBounds_toArray, List.set_cons_succ, List.set_cons_zero]))
  go_ret2
  refine ⟨ret_tw ?_, HB.out⟩
  rw [hE.out]
  clear hE HB c0 c1 c2 c3 c4 c5 c6 c7 c8 c9 c10 c11 c12 c13 c14 c15
  replace m0 := m0.out
  replace m1 := m1.out
  replace m2 := m2.out
  omega
end Go.Proofs.YtbjcdpmhmebjnaaGreat
/- What the document's own Encode answers, for every instruction: its contract. -/
namespace Go.Proofs.YtbjcdpmhmebjnaaGreat
open Go.RowKit Go.Rel
set_option linter.unusedVariables false

theorem right_op {i : Ins} (h : rightB i = true) : 1 ≤ i.op ∧ i.op ≤ 37 := by
  unfold rightB at h
  simp only [Bool.and_eq_true, decide_eq_true_eq] at h
  exact h.1
theorem enc_ok {i : Ins} (hr : rightB i = true) : (encV i).2 = 0 := by
  obtain ⟨op, sub, rd, rn, rm, ra, imm, imm2, amount, shift, cond, sys, flags, minus, not, link⟩ := i
  have h : 1 ≤ op ∧ op ≤ 37 := right_op hr
  rcases (by omega : op = 1 ∨ op = 2 ∨ op = 3 ∨ op = 4 ∨ op = 5 ∨ op = 6 ∨ op = 7 ∨ op = 8 ∨ op = 9 ∨ op = 10 ∨ op = 11 ∨ op = 12 ∨ op = 13 ∨ op = 14 ∨ op = 15 ∨ op = 16 ∨ op = 17 ∨ op = 18 ∨ op = 19 ∨ op = 20 ∨ op = 21 ∨ op = 22 ∨ op = 23 ∨ op = 24 ∨ op = 25 ∨ op = 26 ∨ op = 27 ∨ op = 28 ∨ op = 29 ∨ op = 30 ∨ op = 31 ∨ op = 32 ∨ op = 33 ∨ op = 34 ∨ op = 35 ∨ op = 36 ∨ op = 37) with rfl | rfl | rfl | rfl | rfl | rfl | rfl | rfl | rfl | rfl | rfl | rfl | rfl | rfl | rfl | rfl | rfl | rfl | rfl | rfl | rfl | rfl | rfl | rfl | rfl | rfl | rfl | rfl | rfl | rfl | rfl | rfl | rfl | rfl | rfl | rfl | rfl
  · cases flags
    · obtain rfl : sub = 0 := zero_of (rightF hr).sub; exact (wd0 0 _ _ _ _ _ _ _ _ _ _ _ _ _ _ hr).2
    · obtain rfl : sub = 0 := zero_of (rightF hr).sub; exact (wd0 0 _ _ _ _ _ _ _ _ _ _ _ _ _ _ hr).2
  · cases flags
    · obtain rfl : sub = 0 := zero_of (rightF hr).sub; exact (wd1 0 _ _ _ _ _ _ _ _ _ _ _ _ _ _ hr).2
    · obtain rfl : sub = 0 := zero_of (rightF hr).sub; exact (wd1 0 _ _ _ _ _ _ _ _ _ _ _ _ _ _ hr).2
  · cases flags
    · exact (wd2 _ _ _ _ _ _ _ _ _ _ _ _ _ _ _ hr).2
    · exact (wd2 _ _ _ _ _ _ _ _ _ _ _ _ _ _ _ hr).2
  · cases flags
    · exact (wd3 _ _ _ _ _ _ _ _ _ _ _ _ _ _ _ hr).2
    · exact (wd3 _ _ _ _ _ _ _ _ _ _ _ _ _ _ _ hr).2
  · obtain rfl : flags = false := off_of (rightF hr).flags
    exact (wd4 _ _ _ _ _ _ _ _ _ _ _ _ _ _ _ hr).2
  · obtain rfl : flags = false := off_of (rightF hr).flags
    exact (wd5 _ _ _ _ _ _ _ _ _ _ _ _ _ _ _ hr).2
  · obtain rfl : flags = false := off_of (rightF hr).flags
    exact (wd6 _ _ _ _ _ _ _ _ _ _ _ _ _ _ _ hr).2
  · obtain rfl : flags = false := off_of (rightF hr).flags
    obtain rfl : sub = 0 := zero_of (rightF hr).sub; exact (wd7 0 _ _ _ _ _ _ _ _ _ _ _ _ _ _ hr).2
  · obtain rfl : flags = false := off_of (rightF hr).flags
    exact (wd8 _ _ _ _ _ _ _ _ _ _ _ _ _ _ _ hr).2
  · obtain rfl : flags = false := off_of (rightF hr).flags
    exact (wd9 _ _ _ _ _ _ _ _ _ _ _ _ _ _ _ hr).2
  · obtain rfl : flags = false := off_of (rightF hr).flags
    obtain ⟨s0, s1, _⟩ := holds_of (lo := 0) (hi := 1) (st := 1) (n := sub) (rightF hr).sub
    rcases (by omega : sub = 0 ∨ sub = 1) with rfl | rfl
    · exact (wd10 _ _ _ _ _ _ _ _ _ _ _ _ _ _ _ hr).2
    · exact (wd10 _ _ _ _ _ _ _ _ _ _ _ _ _ _ _ hr).2
  · obtain rfl : flags = false := off_of (rightF hr).flags
    obtain rfl : sub = 0 := zero_of (rightF hr).sub; exact (wd11 0 _ _ _ _ _ _ _ _ _ _ _ _ _ _ hr).2
  · obtain rfl : flags = false := off_of (rightF hr).flags
    obtain rfl : sub = 0 := zero_of (rightF hr).sub; exact (wd12 0 _ _ _ _ _ _ _ _ _ _ _ _ _ _ hr).2
  · obtain rfl : flags = false := off_of (rightF hr).flags
    obtain rfl : sub = 0 := zero_of (rightF hr).sub; exact (wd13 0 _ _ _ _ _ _ _ _ _ _ _ _ _ _ hr).2
  · obtain rfl : flags = false := off_of (rightF hr).flags
    obtain rfl : sub = 0 := zero_of (rightF hr).sub; exact (wd14 0 _ _ _ _ _ _ _ _ _ _ _ _ _ _ hr).2
  · obtain rfl : flags = false := off_of (rightF hr).flags
    exact (wd15 _ _ _ _ _ _ _ _ _ _ _ _ _ _ _ hr).2
  · obtain rfl : flags = false := off_of (rightF hr).flags
    obtain rfl : sub = 0 := zero_of (rightF hr).sub; exact (wd16 0 _ _ _ _ _ _ _ _ _ _ _ _ _ _ hr).2
  · obtain rfl : flags = false := off_of (rightF hr).flags
    obtain rfl : sub = 0 := zero_of (rightF hr).sub; exact (wd17 0 _ _ _ _ _ _ _ _ _ _ _ _ _ _ hr).2
  · obtain rfl : flags = false := off_of (rightF hr).flags
    obtain rfl : sub = 0 := zero_of (rightF hr).sub; exact (wd18 0 _ _ _ _ _ _ _ _ _ _ _ _ _ _ hr).2
  · obtain rfl : flags = false := off_of (rightF hr).flags
    obtain rfl : sub = 0 := zero_of (rightF hr).sub; exact (wd19 0 _ _ _ _ _ _ _ _ _ _ _ _ _ _ hr).2
  · obtain rfl : flags = false := off_of (rightF hr).flags
    obtain ⟨s0, s1, _⟩ := holds_of (lo := 0) (hi := 1) (st := 1) (n := sub) (rightF hr).sub
    rcases (by omega : sub = 0 ∨ sub = 1) with rfl | rfl
    · exact (wd20 0 _ _ _ _ _ _ _ _ _ _ _ _ _ _ hr).2
    · exact (wd21 0 _ _ _ _ _ _ _ _ _ _ _ _ _ _ hr).2
  · obtain rfl : flags = false := off_of (rightF hr).flags
    obtain rfl : sub = 0 := zero_of (rightF hr).sub; exact (wd22 0 _ _ _ _ _ _ _ _ _ _ _ _ _ _ hr).2
  · obtain rfl : flags = false := off_of (rightF hr).flags
    exact (wd23 _ _ _ _ _ _ _ _ _ _ _ _ _ _ _ hr).2
  · obtain rfl : flags = false := off_of (rightF hr).flags
    exact (wd24 _ _ _ _ _ _ _ _ _ _ _ _ _ _ _ hr).2
  · obtain rfl : flags = false := off_of (rightF hr).flags
    obtain rfl : sub = 0 := zero_of (rightF hr).sub; exact (wd25 0 _ _ _ _ _ _ _ _ _ _ _ _ _ _ hr).2
  · obtain rfl : flags = false := off_of (rightF hr).flags
    obtain ⟨s0, s1, _⟩ := holds_of (lo := 0) (hi := 1) (st := 1) (n := sub) (rightF hr).sub
    rcases (by omega : sub = 0 ∨ sub = 1) with rfl | rfl
    · exact (wd26 0 _ _ _ _ _ _ _ _ _ _ _ _ _ _ hr).2
    · exact (wd27 0 _ _ _ _ _ _ _ _ _ _ _ _ _ _ hr).2
  · obtain rfl : flags = false := off_of (rightF hr).flags
    obtain rfl : sub = 0 := zero_of (rightF hr).sub; exact (wd28 0 _ _ _ _ _ _ _ _ _ _ _ _ _ _ hr).2
  · obtain rfl : flags = false := off_of (rightF hr).flags
    obtain rfl : sub = 0 := zero_of (rightF hr).sub; exact (wd29 0 _ _ _ _ _ _ _ _ _ _ _ _ _ _ hr).2
  · obtain rfl : flags = false := off_of (rightF hr).flags
    obtain rfl : sub = 0 := zero_of (rightF hr).sub; exact (wd31 0 _ _ _ _ _ _ _ _ _ _ _ _ _ _ hr).2
  · obtain rfl : flags = false := off_of (rightF hr).flags
    obtain rfl : sub = 0 := zero_of (rightF hr).sub; exact (wd30 0 _ _ _ _ _ _ _ _ _ _ _ _ _ _ hr).2
  · obtain rfl : flags = false := off_of (rightF hr).flags
    obtain rfl : sub = 0 := zero_of (rightF hr).sub; exact (wd32 0 _ _ _ _ _ _ _ _ _ _ _ _ _ _ hr).2
  · obtain rfl : flags = false := off_of (rightF hr).flags
    obtain rfl : sub = 0 := zero_of (rightF hr).sub; exact (wd33 0 _ _ _ _ _ _ _ _ _ _ _ _ _ _ hr).2
  · obtain rfl : flags = false := off_of (rightF hr).flags
    obtain ⟨s0, s1, _⟩ := holds_of (lo := 0) (hi := 1) (st := 1) (n := sub) (rightF hr).sub
    rcases (by omega : sub = 0 ∨ sub = 1) with rfl | rfl
    · exact (wd34 0 _ _ _ _ _ _ _ _ _ _ _ _ _ _ hr).2
    · exact (wd35 0 _ _ _ _ _ _ _ _ _ _ _ _ _ _ hr).2
  · obtain rfl : flags = false := off_of (rightF hr).flags
    obtain rfl : sub = 0 := zero_of (rightF hr).sub; exact (wd36 0 _ _ _ _ _ _ _ _ _ _ _ _ _ _ hr).2
  · obtain rfl : flags = false := off_of (rightF hr).flags
    obtain rfl : sub = 0 := zero_of (rightF hr).sub; exact (wd37 0 _ _ _ _ _ _ _ _ _ _ _ _ _ _ hr).2
  · obtain rfl : flags = false := off_of (rightF hr).flags
    obtain rfl : sub = 0 := zero_of (rightF hr).sub; exact (wd38 0 _ _ _ _ _ _ _ _ _ _ _ _ _ _ hr).2
  · obtain rfl : flags = false := off_of (rightF hr).flags
    obtain rfl : sub = 0 := zero_of (rightF hr).sub; exact (wd39 0 _ _ _ _ _ _ _ _ _ _ _ _ _ _ hr).2
theorem enc_no {i : Ins} (hr : rightB i = false) : encV i = (0, 3) := by rw [encV, if_neg (by rw [hr]; decide)]
set_option maxRecDepth 4000 in
set_option maxHeartbeats 4000000 in
theorem rencode_c (i : Ins) (w : World) :
    Calls Tryz.prog 47 #[i.val] w fun e w' => e = .returned (.tuple #[.int .u32 (encV i).1, .bool (rightB i)]) ∧ Below w.heap.size w w' := by
  cases hr : rightB i
  · have hE := enc_no hr
    have hE : Hid ((encV i).1 = 0) := by show _ = _; rw [hE]
    have HC := rright_c i
    rw [hr] at HC
    replace HC := show Hid _ from HC
    have BX := heap_alloc_new w (.cells i.cells 47)
    have HB := below_alloc w (.cells i.cells 47)
    go_enter Tryz.func47, Tryz.ntmps47
    go_wp2_with (first | (go_at_call 119; refine (HC.out _).mono ?_; rintro e w1 ⟨rfl, hb⟩; replace HB := HB.trans (hb.mono HB.size); clear hb; dsimp only) | ((with_reducible refine wpList_load_if rfl 47 _ rfl w.heap.size rfl 47 _ (0, 0) _ BX Tryz.underlying47 rfl i.infoC ?_); simp only [Act.put, List.setIfInBounds_toArray, List.set_cons_succ, List.set_cons_zero]))
    go_ret2
    exact ⟨by rw [hE.out]; rfl, HB⟩
  · obtain ⟨op, sub, rd, rn, rm, ra, imm, imm2, amount, shift, cond, sys, flags, minus, not, link⟩ := i
    have h : 1 ≤ op ∧ op ≤ 37 := right_op hr
    rcases (by omega : op = 1 ∨ op = 2 ∨ op = 3 ∨ op = 4 ∨ op = 5 ∨ op = 6 ∨ op = 7 ∨ op = 8 ∨ op = 9 ∨ op = 10 ∨ op = 11 ∨ op = 12 ∨ op = 13 ∨ op = 14 ∨ op = 15 ∨ op = 16 ∨ op = 17 ∨ op = 18 ∨ op = 19 ∨ op = 20 ∨ op = 21 ∨ op = 22 ∨ op = 23 ∨ op = 24 ∨ op = 25 ∨ op = 26 ∨ op = 27 ∨ op = 28 ∨ op = 29 ∨ op = 30 ∨ op = 31 ∨ op = 32 ∨ op = 33 ∨ op = 34 ∨ op = 35 ∨ op = 36 ∨ op = 37) with rfl | rfl | rfl | rfl | rfl | rfl | rfl | rfl | rfl | rfl | rfl | rfl | rfl | rfl | rfl | rfl | rfl | rfl | rfl | rfl | rfl | rfl | rfl | rfl | rfl | rfl | rfl | rfl | rfl | rfl | rfl | rfl | rfl | rfl | rfl | rfl | rfl
    · cases flags
      · exact en1f _ _ _ _ _ _ _ _ _ _ _ _ _ _ _ hr
      · exact en1t _ _ _ _ _ _ _ _ _ _ _ _ _ _ _ hr
    · cases flags
      · exact en2f _ _ _ _ _ _ _ _ _ _ _ _ _ _ _ hr
      · exact en2t _ _ _ _ _ _ _ _ _ _ _ _ _ _ _ hr
    · cases flags
      · exact en3f _ _ _ _ _ _ _ _ _ _ _ _ _ _ _ hr
      · exact en3t _ _ _ _ _ _ _ _ _ _ _ _ _ _ _ hr
    · cases flags
      · exact en4f _ _ _ _ _ _ _ _ _ _ _ _ _ _ _ hr
      · exact en4t _ _ _ _ _ _ _ _ _ _ _ _ _ _ _ hr
    · obtain rfl : flags = false := off_of (rightF hr).flags
      exact en5 _ _ _ _ _ _ _ _ _ _ _ _ _ _ _ hr
    · obtain rfl : flags = false := off_of (rightF hr).flags
      exact en6 _ _ _ _ _ _ _ _ _ _ _ _ _ _ _ hr
    · obtain rfl : flags = false := off_of (rightF hr).flags
      exact en7 _ _ _ _ _ _ _ _ _ _ _ _ _ _ _ hr
    · obtain rfl : flags = false := off_of (rightF hr).flags
      exact en8 _ _ _ _ _ _ _ _ _ _ _ _ _ _ _ hr
    · obtain rfl : flags = false := off_of (rightF hr).flags
      exact en9 _ _ _ _ _ _ _ _ _ _ _ _ _ _ _ hr
    · obtain rfl : flags = false := off_of (rightF hr).flags
      exact en10 _ _ _ _ _ _ _ _ _ _ _ _ _ _ _ hr
    · obtain rfl : flags = false := off_of (rightF hr).flags
      obtain ⟨s0, s1, _⟩ := holds_of (lo := 0) (hi := 1) (st := 1) (n := sub) (rightF hr).sub
      rcases (by omega : sub = 0 ∨ sub = 1) with rfl | rfl
      · exact en11_0 _ _ _ _ _ _ _ _ _ _ _ _ _ _ hr
      · exact en11_1 _ _ _ _ _ _ _ _ _ _ _ _ _ _ hr
    · obtain rfl : flags = false := off_of (rightF hr).flags
      exact en12 _ _ _ _ _ _ _ _ _ _ _ _ _ _ _ hr
    · obtain rfl : flags = false := off_of (rightF hr).flags
      exact en13 _ _ _ _ _ _ _ _ _ _ _ _ _ _ _ hr
    · obtain rfl : flags = false := off_of (rightF hr).flags
      exact en14 _ _ _ _ _ _ _ _ _ _ _ _ _ _ _ hr
    · obtain rfl : flags = false := off_of (rightF hr).flags
      exact en15 _ _ _ _ _ _ _ _ _ _ _ _ _ _ _ hr
    · obtain rfl : flags = false := off_of (rightF hr).flags
      exact en16 _ _ _ _ _ _ _ _ _ _ _ _ _ _ _ hr
    · obtain rfl : flags = false := off_of (rightF hr).flags
      exact en17 _ _ _ _ _ _ _ _ _ _ _ _ _ _ _ hr
    · obtain rfl : flags = false := off_of (rightF hr).flags
      exact en18 _ _ _ _ _ _ _ _ _ _ _ _ _ _ _ hr
    · obtain rfl : flags = false := off_of (rightF hr).flags
      exact en19 _ _ _ _ _ _ _ _ _ _ _ _ _ _ _ hr
    · obtain rfl : flags = false := off_of (rightF hr).flags
      exact en20 _ _ _ _ _ _ _ _ _ _ _ _ _ _ _ hr
    · obtain rfl : flags = false := off_of (rightF hr).flags
      obtain ⟨s0, s1, _⟩ := holds_of (lo := 0) (hi := 1) (st := 1) (n := sub) (rightF hr).sub
      rcases (by omega : sub = 0 ∨ sub = 1) with rfl | rfl
      · exact en21_0 _ _ _ _ _ _ _ _ _ _ _ _ _ _ hr
      · exact en21_1 _ _ _ _ _ _ _ _ _ _ _ _ _ _ hr
    · obtain rfl : flags = false := off_of (rightF hr).flags
      exact en22 _ _ _ _ _ _ _ _ _ _ _ _ _ _ _ hr
    · obtain rfl : flags = false := off_of (rightF hr).flags
      exact en23 _ _ _ _ _ _ _ _ _ _ _ _ _ _ _ hr
    · obtain rfl : flags = false := off_of (rightF hr).flags
      exact en24 _ _ _ _ _ _ _ _ _ _ _ _ _ _ _ hr
    · obtain rfl : flags = false := off_of (rightF hr).flags
      exact en25 _ _ _ _ _ _ _ _ _ _ _ _ _ _ _ hr
    · obtain rfl : flags = false := off_of (rightF hr).flags
      obtain ⟨s0, s1, _⟩ := holds_of (lo := 0) (hi := 1) (st := 1) (n := sub) (rightF hr).sub
      rcases (by omega : sub = 0 ∨ sub = 1) with rfl | rfl
      · exact en26_0 _ _ _ _ _ _ _ _ _ _ _ _ _ _ hr
      · exact en26_1 _ _ _ _ _ _ _ _ _ _ _ _ _ _ hr
    · obtain rfl : flags = false := off_of (rightF hr).flags
      exact en27 _ _ _ _ _ _ _ _ _ _ _ _ _ _ _ hr
    · obtain rfl : flags = false := off_of (rightF hr).flags
      exact en28 _ _ _ _ _ _ _ _ _ _ _ _ _ _ _ hr
    · obtain rfl : flags = false := off_of (rightF hr).flags
      exact en29 _ _ _ _ _ _ _ _ _ _ _ _ _ _ _ hr
    · obtain rfl : flags = false := off_of (rightF hr).flags
      exact en30 _ _ _ _ _ _ _ _ _ _ _ _ _ _ _ hr
    · obtain rfl : flags = false := off_of (rightF hr).flags
      exact en31 _ _ _ _ _ _ _ _ _ _ _ _ _ _ _ hr
    · obtain rfl : flags = false := off_of (rightF hr).flags
      exact en32 _ _ _ _ _ _ _ _ _ _ _ _ _ _ _ hr
    · obtain rfl : flags = false := off_of (rightF hr).flags
      obtain ⟨s0, s1, _⟩ := holds_of (lo := 0) (hi := 1) (st := 1) (n := sub) (rightF hr).sub
      rcases (by omega : sub = 0 ∨ sub = 1) with rfl | rfl
      · exact en33_0 _ _ _ _ _ _ _ _ _ _ _ _ _ _ hr
      · exact en33_1 _ _ _ _ _ _ _ _ _ _ _ _ _ _ hr
    · obtain rfl : flags = false := off_of (rightF hr).flags
      exact en34 _ _ _ _ _ _ _ _ _ _ _ _ _ _ _ hr
    · obtain rfl : flags = false := off_of (rightF hr).flags
      exact en35 _ _ _ _ _ _ _ _ _ _ _ _ _ _ _ hr
    · obtain rfl : flags = false := off_of (rightF hr).flags
      exact en36 _ _ _ _ _ _ _ _ _ _ _ _ _ _ _ hr
    · obtain rfl : flags = false := off_of (rightF hr).flags
      exact en37 _ _ _ _ _ _ _ _ _ _ _ _ _ _ _ hr
end Go.Proofs.YtbjcdpmhmebjnaaGreat
