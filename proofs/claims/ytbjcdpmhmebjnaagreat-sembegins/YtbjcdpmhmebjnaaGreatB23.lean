/- Encode of the document's own answer to chapter 3: contracts, an Op each. -/
import Derived.Test.YtbjcdpmhmebjnaaGreatB22
namespace Go.Proofs.YtbjcdpmhmebjnaaGreat
open Go.RowKit Go.Rel
set_option linter.unusedVariables false
set_option linter.unusedSimpArgs false

set_option maxRecDepth 4000 in
set_option maxHeartbeats 8000000 in
theorem en5 (S D N M A I J U F C Y : Int) (X O L : Bool) (w : World) (hr : rightB ⟨5, S, D, N, M, A, I, J, U, F, C, Y, false, X, O, L⟩ = true) :
    Calls Tryz.prog 47 #[(⟨5, S, D, N, M, A, I, J, U, F, C, Y, false, X, O, L⟩ : Ins).val] w fun e w' => e = .returned (.tuple #[.int .u32 (encV ⟨5, S, D, N, M, A, I, J, U, F, C, Y, false, X, O, L⟩).1, .bool true]) ∧ Below w.heap.size w w' := by
  have R := rightF hr
  obtain ⟨x0, y0, z0⟩ := holds_of (lo := 0) (hi := 3) (st := 1) (n := S) R.sub
  clear z0
  obtain ⟨x1, y1, z1⟩ := holds_of (lo := 0) (hi := 65535) (st := 1) (n := I) R.imm
  clear z1
  obtain ⟨x2, y2, z2⟩ := holds_of (lo := 0) (hi := 48) (st := 16) (n := U) R.amount
  clear z2
  have hE := (wd4 S D N M A I J U F C Y false X O L hr).1
  have nn0 : U.tdiv 16 = U / 16 := Int.tdiv_eq_ediv_of_nonneg (by omega)
  rw [nn0] at hE
  clear nn0
  replace hE := show Hid _ from hE
  have HC := rright_c ⟨5, S, D, N, M, A, I, J, U, F, C, Y, false, X, O, L⟩
  rw [hr] at HC
  replace HC := show Hid _ from HC
  clear R hr
  have BX := heap_alloc_new w (.cells #[vI 5, vI S, vI D, vI N, vI M, vI A, vI I, vI J, vI U, vI F, vI C, vI Y, .bool false, .bool X, .bool O, .bool L] 47)
  have HB := below_alloc w (.cells #[vI 5, vI S, vI D, vI N, vI M, vI A, vI I, vI J, vI U, vI F, vI C, vI Y, .bool false, .bool X, .bool O, .bool L] 47)
  have b0 : 0 ≤ lowI D 5 ∧ lowI D 5 < 32 := lowI_in _ 5
  have m0 : Hid (lowI D 5 = D % 32) := lowI_mod D 5 (by decide)
  have b1 : 0 ≤ lowI N 5 ∧ lowI N 5 < 32 := lowI_in _ 5
  have m1 : Hid (lowI N 5 = N % 32) := lowI_mod N 5 (by decide)
  have b2 : 0 ≤ lowI M 5 ∧ lowI M 5 < 32 := lowI_in _ 5
  have m2 : Hid (lowI M 5 = M % 32) := lowI_mod M 5 (by decide)
  have b3 : 0 ≤ lowI I 16 ∧ lowI I 16 < 65536 := lowI_in _ 16
  have m3 : Hid (lowI I 16 = I % 65536) := lowI_mod I 16 (by decide)
  have v0 := when_in X (x := 1073741824) (by decide)
  have e0 : whenI false 536870912 = 0 := rfl
  skip
  go_enter Tryz.func47, Tryz.ntmps47
  go_wp2_with (first | (go_at_call 119; refine (HC.out _).mono ?_; rintro e w1 ⟨rfl, hb⟩; replace BX := keepB BX hb; replace HB := thenH HB hb; clear hb HC; dsimp only; obtain ⟨c0, c1, c2, c3, c4, c5, c6, c7, c8, c9, c10, c11, c12, c13, c14, c15⟩ := cells16 BX) | ((with_reducible refine wpList_load_if rfl 47 _ rfl w.heap.size rfl 47 _ (0, 0) _ BX Tryz.underlying47 rfl (infoK _ rfl) ?_); simp only [Act.put, List.setIfInBounds_toArray, List.set_cons_succ, List.set_cons_zero]) | (go_at_call 120; refine (lowI_c _ _ (by decide) (by decide) _).mono ?_; rintro e w' ⟨rfl, rfl⟩; dsimp only))
  go_quiet ((first | (go_at_call 120; exact Calls.quiet_of_same (lowI_c _ _ (by decide) (by decide) _)) | (go_at_call 121; exact Calls.quiet_of_same (whenI_c _ _ _))))
  replace HB : Hid (Below w.heap.size w (w'.drewN nq)) := below_drewN HB.out nq
  replace BX := drewB BX nq
  clear c0 c1 c2 c3 c4 c5 c6 c7 c8 c9 c10 c11 c12 c13 c14 c15
  obtain ⟨c0, c1, c2, c3, c4, c5, c6, c7, c8, c9, c10, c11, c12, c13, c14, c15⟩ := cells16 BX
  generalize w'.drewN nq = w2 at *
  clear BX
  go_wp2_with fail
  go_quiet ((first | (go_at_call 120; exact Calls.quiet_of_same (lowI_c _ _ (by decide) (by decide) _)) | (go_at_call 121; exact Calls.quiet_of_same (whenI_c _ _ _))))
  go_wp2
  go_ret2
  refine ⟨ret_tw ?_, below_drewN HB.out _⟩
  rw [hE.out]
  clear hE HB c0 c1 c2 c3 c4 c5 c6 c7 c8 c9 c10 c11 c12 c13 c14 c15
  replace m0 := m0.out
  replace m1 := m1.out
  replace m2 := m2.out
  replace m3 := m3.out
  omega
set_option maxRecDepth 4000 in
set_option maxHeartbeats 8000000 in
theorem en6 (S D N M A I J U F C Y : Int) (X O L : Bool) (w : World) (hr : rightB ⟨6, S, D, N, M, A, I, J, U, F, C, Y, false, X, O, L⟩ = true) :
    Calls Tryz.prog 47 #[(⟨6, S, D, N, M, A, I, J, U, F, C, Y, false, X, O, L⟩ : Ins).val] w fun e w' => e = .returned (.tuple #[.int .u32 (encV ⟨6, S, D, N, M, A, I, J, U, F, C, Y, false, X, O, L⟩).1, .bool true]) ∧ Below w.heap.size w w' := by
  have R := rightF hr
  obtain ⟨x0, y0, z0⟩ := holds_of (lo := 0) (hi := 2) (st := 2) (n := S) R.sub
  clear z0
  obtain ⟨x1, y1, z1⟩ := holds_of (lo := 0) (hi := 63) (st := 1) (n := I) R.imm
  clear z1
  obtain ⟨x2, y2, z2⟩ := holds_of (lo := 0) (hi := 63) (st := 1) (n := J) R.imm2
  clear z2
  have hE := (wd5 S D N M A I J U F C Y false X O L hr).1
  replace hE := show Hid _ from hE
  have HC := rright_c ⟨6, S, D, N, M, A, I, J, U, F, C, Y, false, X, O, L⟩
  rw [hr] at HC
  replace HC := show Hid _ from HC
  clear R hr
  have BX := heap_alloc_new w (.cells #[vI 6, vI S, vI D, vI N, vI M, vI A, vI I, vI J, vI U, vI F, vI C, vI Y, .bool false, .bool X, .bool O, .bool L] 47)
  have HB := below_alloc w (.cells #[vI 6, vI S, vI D, vI N, vI M, vI A, vI I, vI J, vI U, vI F, vI C, vI Y, .bool false, .bool X, .bool O, .bool L] 47)
  have b0 : 0 ≤ lowI D 5 ∧ lowI D 5 < 32 := lowI_in _ 5
  have m0 : Hid (lowI D 5 = D % 32) := lowI_mod D 5 (by decide)
  have b1 : 0 ≤ lowI N 5 ∧ lowI N 5 < 32 := lowI_in _ 5
  have m1 : Hid (lowI N 5 = N % 32) := lowI_mod N 5 (by decide)
  have b2 : 0 ≤ lowI M 5 ∧ lowI M 5 < 32 := lowI_in _ 5
  have m2 : Hid (lowI M 5 = M % 32) := lowI_mod M 5 (by decide)
  have b3 : 0 ≤ lowI I 6 ∧ lowI I 6 < 64 := lowI_in _ 6
  have m3 : Hid (lowI I 6 = I % 64) := lowI_mod I 6 (by decide)
  have b4 : 0 ≤ lowI J 6 ∧ lowI J 6 < 64 := lowI_in _ 6
  have m4 : Hid (lowI J 6 = J % 64) := lowI_mod J 6 (by decide)
  have v0 := when_in X (x := 1073741824) (by decide)
  have e0 : whenI false 536870912 = 0 := rfl
  skip
  go_enter Tryz.func47, Tryz.ntmps47
  go_wp2_with (first | (go_at_call 119; refine (HC.out _).mono ?_; rintro e w1 ⟨rfl, hb⟩; replace BX := keepB BX hb; replace HB := thenH HB hb; clear hb HC; dsimp only; obtain ⟨c0, c1, c2, c3, c4, c5, c6, c7, c8, c9, c10, c11, c12, c13, c14, c15⟩ := cells16 BX) | ((with_reducible refine wpList_load_if rfl 47 _ rfl w.heap.size rfl 47 _ (0, 0) _ BX Tryz.underlying47 rfl (infoK _ rfl) ?_); simp only [Act.put, List.setIfInBounds_toArray, List.set_cons_succ, List.set_cons_zero]) | (go_at_call 120; refine (lowI_c _ _ (by decide) (by decide) _).mono ?_; rintro e w' ⟨rfl, rfl⟩; dsimp only))
  go_quiet ((first | (go_at_call 120; exact Calls.quiet_of_same (lowI_c _ _ (by decide) (by decide) _)) | (go_at_call 121; exact Calls.quiet_of_same (whenI_c _ _ _))))
  replace HB : Hid (Below w.heap.size w (w'.drewN nq)) := below_drewN HB.out nq
  replace BX := drewB BX nq
  clear c0 c1 c2 c3 c4 c5 c6 c7 c8 c9 c10 c11 c12 c13 c14 c15
  obtain ⟨c0, c1, c2, c3, c4, c5, c6, c7, c8, c9, c10, c11, c12, c13, c14, c15⟩ := cells16 BX
  generalize w'.drewN nq = w2 at *
  clear BX
  go_wp2_with fail
  go_quiet ((first | (go_at_call 120; exact Calls.quiet_of_same (lowI_c _ _ (by decide) (by decide) _)) | (go_at_call 121; exact Calls.quiet_of_same (whenI_c _ _ _))))
  go_wp2
  go_ret2
  refine ⟨ret_tw ?_, below_drewN HB.out _⟩
  rw [hE.out]
  clear hE HB c0 c1 c2 c3 c4 c5 c6 c7 c8 c9 c10 c11 c12 c13 c14 c15
  replace m0 := m0.out
  replace m1 := m1.out
  replace m2 := m2.out
  replace m3 := m3.out
  replace m4 := m4.out
  omega
set_option maxRecDepth 4000 in
set_option maxHeartbeats 8000000 in
theorem en7 (S D N M A I J U F C Y : Int) (X O L : Bool) (w : World) (hr : rightB ⟨7, S, D, N, M, A, I, J, U, F, C, Y, false, X, O, L⟩ = true) :
    Calls Tryz.prog 47 #[(⟨7, S, D, N, M, A, I, J, U, F, C, Y, false, X, O, L⟩ : Ins).val] w fun e w' => e = .returned (.tuple #[.int .u32 (encV ⟨7, S, D, N, M, A, I, J, U, F, C, Y, false, X, O, L⟩).1, .bool true]) ∧ Below w.heap.size w w' := by
  have R := rightF hr
  obtain ⟨x0, y0, z0⟩ := holds_of (lo := 0) (hi := 3) (st := 1) (n := S) R.sub
  clear z0
  have hE := (wd6 S D N M A I J U F C Y false X O L hr).1
  replace hE := show Hid _ from hE
  have HC := rright_c ⟨7, S, D, N, M, A, I, J, U, F, C, Y, false, X, O, L⟩
  rw [hr] at HC
  replace HC := show Hid _ from HC
  clear R hr
  have BX := heap_alloc_new w (.cells #[vI 7, vI S, vI D, vI N, vI M, vI A, vI I, vI J, vI U, vI F, vI C, vI Y, .bool false, .bool X, .bool O, .bool L] 47)
  have HB := below_alloc w (.cells #[vI 7, vI S, vI D, vI N, vI M, vI A, vI I, vI J, vI U, vI F, vI C, vI Y, .bool false, .bool X, .bool O, .bool L] 47)
  have b0 : 0 ≤ lowI D 5 ∧ lowI D 5 < 32 := lowI_in _ 5
  have m0 : Hid (lowI D 5 = D % 32) := lowI_mod D 5 (by decide)
  have b1 : 0 ≤ lowI N 5 ∧ lowI N 5 < 32 := lowI_in _ 5
  have m1 : Hid (lowI N 5 = N % 32) := lowI_mod N 5 (by decide)
  have b2 : 0 ≤ lowI M 5 ∧ lowI M 5 < 32 := lowI_in _ 5
  have m2 : Hid (lowI M 5 = M % 32) := lowI_mod M 5 (by decide)
  have v0 := when_in X (x := 1073741824) (by decide)
  have e0 : whenI false 536870912 = 0 := rfl
  skip
  go_enter Tryz.func47, Tryz.ntmps47
  go_wp2_with (first | (go_at_call 119; refine (HC.out _).mono ?_; rintro e w1 ⟨rfl, hb⟩; replace BX := keepB BX hb; replace HB := thenH HB hb; clear hb HC; dsimp only; obtain ⟨c0, c1, c2, c3, c4, c5, c6, c7, c8, c9, c10, c11, c12, c13, c14, c15⟩ := cells16 BX) | ((with_reducible refine wpList_load_if rfl 47 _ rfl w.heap.size rfl 47 _ (0, 0) _ BX Tryz.underlying47 rfl (infoK _ rfl) ?_); simp only [Act.put, List.setIfInBounds_toArray, List.set_cons_succ, List.set_cons_zero]) | (go_at_call 120; refine (lowI_c _ _ (by decide) (by decide) _).mono ?_; rintro e w' ⟨rfl, rfl⟩; dsimp only))
  go_quiet ((first | (go_at_call 120; exact Calls.quiet_of_same (lowI_c _ _ (by decide) (by decide) _)) | (go_at_call 121; exact Calls.quiet_of_same (whenI_c _ _ _))))
  replace HB : Hid (Below w.heap.size w (w'.drewN nq)) := below_drewN HB.out nq
  replace BX := drewB BX nq
  clear c0 c1 c2 c3 c4 c5 c6 c7 c8 c9 c10 c11 c12 c13 c14 c15
  obtain ⟨c0, c1, c2, c3, c4, c5, c6, c7, c8, c9, c10, c11, c12, c13, c14, c15⟩ := cells16 BX
  generalize w'.drewN nq = w2 at *
  go_wp2_with (go_at_call 120; refine (lowI_c _ _ (by decide) (by decide) _).mono ?_; rintro e w' ⟨rfl, rfl⟩; dsimp only)
  go_ret2
  refine ⟨ret_tw ?_, HB.out⟩
  rw [hE.out]
  clear hE HB c0 c1 c2 c3 c4 c5 c6 c7 c8 c9 c10 c11 c12 c13 c14 c15
  replace m0 := m0.out
  replace m1 := m1.out
  replace m2 := m2.out
  omega
set_option maxRecDepth 4000 in
set_option maxHeartbeats 8000000 in
theorem en8 (S D N M A I J U F C Y : Int) (X O L : Bool) (w : World) (hr : rightB ⟨8, S, D, N, M, A, I, J, U, F, C, Y, false, X, O, L⟩ = true) :
    Calls Tryz.prog 47 #[(⟨8, S, D, N, M, A, I, J, U, F, C, Y, false, X, O, L⟩ : Ins).val] w fun e w' => e = .returned (.tuple #[.int .u32 (encV ⟨8, S, D, N, M, A, I, J, U, F, C, Y, false, X, O, L⟩).1, .bool true]) ∧ Below w.heap.size w w' := by
  have R := rightF hr
  obtain rfl : S = 0 := zero_of R.sub
  have hE := (wd7 0 D N M A I J U F C Y false X O L hr).1
  replace hE := show Hid _ from hE
  have HC := rright_c ⟨8, 0, D, N, M, A, I, J, U, F, C, Y, false, X, O, L⟩
  rw [hr] at HC
  replace HC := show Hid _ from HC
  clear R hr
  have BX := heap_alloc_new w (.cells #[vI 8, vI 0, vI D, vI N, vI M, vI A, vI I, vI J, vI U, vI F, vI C, vI Y, .bool false, .bool X, .bool O, .bool L] 47)
  have HB := below_alloc w (.cells #[vI 8, vI 0, vI D, vI N, vI M, vI A, vI I, vI J, vI U, vI F, vI C, vI Y, .bool false, .bool X, .bool O, .bool L] 47)
  have b0 : 0 ≤ lowI D 5 ∧ lowI D 5 < 32 := lowI_in _ 5
  have m0 : Hid (lowI D 5 = D % 32) := lowI_mod D 5 (by decide)
  have b1 : 0 ≤ lowI N 5 ∧ lowI N 5 < 32 := lowI_in _ 5
  have m1 : Hid (lowI N 5 = N % 32) := lowI_mod N 5 (by decide)
  have b2 : 0 ≤ lowI M 5 ∧ lowI M 5 < 32 := lowI_in _ 5
  have m2 : Hid (lowI M 5 = M % 32) := lowI_mod M 5 (by decide)
  have b3 : 0 ≤ lowI A 5 ∧ lowI A 5 < 32 := lowI_in _ 5
  have m3 : Hid (lowI A 5 = A % 32) := lowI_mod A 5 (by decide)
  have v0 := when_in X (x := 1073741824) (by decide)
  have v1 := when_in X (x := 32768) (by decide)
  have e0 : whenI false 536870912 = 0 := rfl
  skip
  go_enter Tryz.func47, Tryz.ntmps47
  go_wp2_with (first | (go_at_call 119; refine (HC.out _).mono ?_; rintro e w1 ⟨rfl, hb⟩; replace BX := keepB BX hb; replace HB := thenH HB hb; clear hb HC; dsimp only; obtain ⟨c0, c1, c2, c3, c4, c5, c6, c7, c8, c9, c10, c11, c12, c13, c14, c15⟩ := cells16 BX) | ((with_reducible refine wpList_load_if rfl 47 _ rfl w.heap.size rfl 47 _ (0, 0) _ BX Tryz.underlying47 rfl (infoK _ rfl) ?_); simp only [Act.put, List.setIfInBounds_toArray, List.set_cons_succ, List.set_cons_zero]) | (go_at_call 120; refine (lowI_c _ _ (by decide) (by decide) _).mono ?_; rintro e w' ⟨rfl, rfl⟩; dsimp only))
  go_quiet ((first | (go_at_call 120; exact Calls.quiet_of_same (lowI_c _ _ (by decide) (by decide) _)) | (go_at_call 121; exact Calls.quiet_of_same (whenI_c _ _ _))))
  replace HB : Hid (Below w.heap.size w (w'.drewN nq)) := below_drewN HB.out nq
  replace BX := drewB BX nq
  clear c0 c1 c2 c3 c4 c5 c6 c7 c8 c9 c10 c11 c12 c13 c14 c15
  obtain ⟨c0, c1, c2, c3, c4, c5, c6, c7, c8, c9, c10, c11, c12, c13, c14, c15⟩ := cells16 BX
  generalize w'.drewN nq = w2 at *
  clear BX
  go_wp2_with fail
  go_quiet ((first | (go_at_call 120; exact Calls.quiet_of_same (lowI_c _ _ (by decide) (by decide) _)) | (go_at_call 121; exact Calls.quiet_of_same (whenI_c _ _ _))))
  go_wp2
  go_ret2
  refine ⟨ret_tw ?_, below_drewN HB.out _⟩
  rw [hE.out]
  clear hE HB c0 c1 c2 c3 c4 c5 c6 c7 c8 c9 c10 c11 c12 c13 c14 c15
  replace m0 := m0.out
  replace m1 := m1.out
  replace m2 := m2.out
  replace m3 := m3.out
  omega
set_option maxRecDepth 4000 in
set_option maxHeartbeats 8000000 in
theorem en9 (S D N M A I J U F C Y : Int) (X O L : Bool) (w : World) (hr : rightB ⟨9, S, D, N, M, A, I, J, U, F, C, Y, false, X, O, L⟩ = true) :
    Calls Tryz.prog 47 #[(⟨9, S, D, N, M, A, I, J, U, F, C, Y, false, X, O, L⟩ : Ins).val] w fun e w' => e = .returned (.tuple #[.int .u32 (encV ⟨9, S, D, N, M, A, I, J, U, F, C, Y, false, X, O, L⟩).1, .bool true]) ∧ Below w.heap.size w w' := by
  have R := rightF hr
  obtain ⟨x0, y0, z0⟩ := holds_of (lo := 0) (hi := 1) (st := 1) (n := S) R.sub
  clear z0
  have hE := (wd8 S D N M A I J U F C Y false X O L hr).1
  replace hE := show Hid _ from hE
  have HC := rright_c ⟨9, S, D, N, M, A, I, J, U, F, C, Y, false, X, O, L⟩
  rw [hr] at HC
  replace HC := show Hid _ from HC
  clear R hr
  have BX := heap_alloc_new w (.cells #[vI 9, vI S, vI D, vI N, vI M, vI A, vI I, vI J, vI U, vI F, vI C, vI Y, .bool false, .bool X, .bool O, .bool L] 47)
  have HB := below_alloc w (.cells #[vI 9, vI S, vI D, vI N, vI M, vI A, vI I, vI J, vI U, vI F, vI C, vI Y, .bool false, .bool X, .bool O, .bool L] 47)
  have b0 : 0 ≤ lowI D 5 ∧ lowI D 5 < 32 := lowI_in _ 5
  have m0 : Hid (lowI D 5 = D % 32) := lowI_mod D 5 (by decide)
  have b1 : 0 ≤ lowI N 5 ∧ lowI N 5 < 32 := lowI_in _ 5
  have m1 : Hid (lowI N 5 = N % 32) := lowI_mod N 5 (by decide)
  have b2 : 0 ≤ lowI M 5 ∧ lowI M 5 < 32 := lowI_in _ 5
  have m2 : Hid (lowI M 5 = M % 32) := lowI_mod M 5 (by decide)
  have v0 := when_in X (x := 1073741824) (by decide)
  have e0 : whenI false 536870912 = 0 := rfl
  skip
  go_enter Tryz.func47, Tryz.ntmps47
  go_wp2_with (first | (go_at_call 119; refine (HC.out _).mono ?_; rintro e w1 ⟨rfl, hb⟩; replace BX := keepB BX hb; replace HB := thenH HB hb; clear hb HC; dsimp only; obtain ⟨c0, c1, c2, c3, c4, c5, c6, c7, c8, c9, c10, c11, c12, c13, c14, c15⟩ := cells16 BX) | ((with_reducible refine wpList_load_if rfl 47 _ rfl w.heap.size rfl 47 _ (0, 0) _ BX Tryz.underlying47 rfl (infoK _ rfl) ?_); simp only [Act.put, List.setIfInBounds_toArray, List.set_cons_succ, List.set_cons_zero]) | (go_at_call 120; refine (lowI_c _ _ (by decide) (by decide) _).mono ?_; rintro e w' ⟨rfl, rfl⟩; dsimp only))
  go_quiet ((first | (go_at_call 120; exact Calls.quiet_of_same (lowI_c _ _ (by decide) (by decide) _)) | (go_at_call 121; exact Calls.quiet_of_same (whenI_c _ _ _))))
  replace HB : Hid (Below w.heap.size w (w'.drewN nq)) := below_drewN HB.out nq
  replace BX := drewB BX nq
  clear c0 c1 c2 c3 c4 c5 c6 c7 c8 c9 c10 c11 c12 c13 c14 c15
  obtain ⟨c0, c1, c2, c3, c4, c5, c6, c7, c8, c9, c10, c11, c12, c13, c14, c15⟩ := cells16 BX
  generalize w'.drewN nq = w2 at *
  go_wp2_with (go_at_call 120; refine (lowI_c _ _ (by decide) (by decide) _).mono ?_; rintro e w' ⟨rfl, rfl⟩; dsimp only)
  go_ret2
  refine ⟨ret_tw ?_, HB.out⟩
  rw [hE.out]
  clear hE HB c0 c1 c2 c3 c4 c5 c6 c7 c8 c9 c10 c11 c12 c13 c14 c15
  replace m0 := m0.out
  replace m1 := m1.out
  replace m2 := m2.out
  omega
set_option maxRecDepth 4000 in
set_option maxHeartbeats 8000000 in
theorem en10 (S D N M A I J U F C Y : Int) (X O L : Bool) (w : World) (hr : rightB ⟨10, S, D, N, M, A, I, J, U, F, C, Y, false, X, O, L⟩ = true) :
    Calls Tryz.prog 47 #[(⟨10, S, D, N, M, A, I, J, U, F, C, Y, false, X, O, L⟩ : Ins).val] w fun e w' => e = .returned (.tuple #[.int .u32 (encV ⟨10, S, D, N, M, A, I, J, U, F, C, Y, false, X, O, L⟩).1, .bool true]) ∧ Below w.heap.size w w' := by
  have R := rightF hr
  obtain ⟨x0, y0, z0⟩ := holds_of (lo := 0) (hi := 3) (st := 1) (n := S) R.sub
  clear z0
  obtain ⟨x1, y1, z1⟩ := holds_of (lo := 0) (hi := 15) (st := 1) (n := C) R.cond
  clear z1
  have hE := (wd9 S D N M A I J U F C Y false X O L hr).1
  have nn0 : S.tdiv 2 = S / 2 := Int.tdiv_eq_ediv_of_nonneg (by omega)
  have nn1 : S.tmod 2 = S % 2 := Int.tmod_eq_emod_of_nonneg (by omega)
  rw [nn0] at hE
  rw [nn1] at hE
  clear nn0 nn1
  replace hE := show Hid _ from hE
  have HC := rright_c ⟨10, S, D, N, M, A, I, J, U, F, C, Y, false, X, O, L⟩
  rw [hr] at HC
  replace HC := show Hid _ from HC
  clear R hr
  have BX := heap_alloc_new w (.cells #[vI 10, vI S, vI D, vI N, vI M, vI A, vI I, vI J, vI U, vI F, vI C, vI Y, .bool false, .bool X, .bool O, .bool L] 47)
  have HB := below_alloc w (.cells #[vI 10, vI S, vI D, vI N, vI M, vI A, vI I, vI J, vI U, vI F, vI C, vI Y, .bool false, .bool X, .bool O, .bool L] 47)
  have b0 : 0 ≤ lowI D 5 ∧ lowI D 5 < 32 := lowI_in _ 5
  have m0 : Hid (lowI D 5 = D % 32) := lowI_mod D 5 (by decide)
  have b1 : 0 ≤ lowI N 5 ∧ lowI N 5 < 32 := lowI_in _ 5
  have m1 : Hid (lowI N 5 = N % 32) := lowI_mod N 5 (by decide)
  have b2 : 0 ≤ lowI M 5 ∧ lowI M 5 < 32 := lowI_in _ 5
  have m2 : Hid (lowI M 5 = M % 32) := lowI_mod M 5 (by decide)
  have b3 : 0 ≤ lowI C 4 ∧ lowI C 4 < 16 := lowI_in _ 4
  have m3 : Hid (lowI C 4 = C % 16) := lowI_mod C 4 (by decide)
  have v0 := when_in X (x := 1073741824) (by decide)
  have e0 : whenI false 536870912 = 0 := rfl
  skip
  go_enter Tryz.func47, Tryz.ntmps47
  go_wp2_with (first | (go_at_call 119; refine (HC.out _).mono ?_; rintro e w1 ⟨rfl, hb⟩; replace BX := keepB BX hb; replace HB := thenH HB hb; clear hb HC; dsimp only; obtain ⟨c0, c1, c2, c3, c4, c5, c6, c7, c8, c9, c10, c11, c12, c13, c14, c15⟩ := cells16 BX) | ((with_reducible refine wpList_load_if rfl 47 _ rfl w.heap.size rfl 47 _ (0, 0) _ BX Tryz.underlying47 rfl (infoK _ rfl) ?_); simp only [Act.put, List.setIfInBounds_toArray, List.set_cons_succ, List.set_cons_zero]) | (go_at_call 120; refine (lowI_c _ _ (by decide) (by decide) _).mono ?_; rintro e w' ⟨rfl, rfl⟩; dsimp only))
  go_quiet ((first | (go_at_call 120; exact Calls.quiet_of_same (lowI_c _ _ (by decide) (by decide) _)) | (go_at_call 121; exact Calls.quiet_of_same (whenI_c _ _ _))))
  replace HB : Hid (Below w.heap.size w (w'.drewN nq)) := below_drewN HB.out nq
  replace BX := drewB BX nq
  clear c0 c1 c2 c3 c4 c5 c6 c7 c8 c9 c10 c11 c12 c13 c14 c15
  obtain ⟨c0, c1, c2, c3, c4, c5, c6, c7, c8, c9, c10, c11, c12, c13, c14, c15⟩ := cells16 BX
  generalize w'.drewN nq = w2 at *
  go_wp2_with (go_at_call 120; refine (lowI_c _ _ (by decide) (by decide) _).mono ?_; rintro e w' ⟨rfl, rfl⟩; dsimp only)
  go_ret2
  refine ⟨ret_tw ?_, HB.out⟩
  rw [hE.out]
  clear hE HB c0 c1 c2 c3 c4 c5 c6 c7 c8 c9 c10 c11 c12 c13 c14 c15
  replace m0 := m0.out
  replace m1 := m1.out
  replace m2 := m2.out
  replace m3 := m3.out
  omega
end Go.Proofs.YtbjcdpmhmebjnaaGreat
/- Encode of the document's own answer to chapter 3: contracts, an Op each. -/
namespace Go.Proofs.YtbjcdpmhmebjnaaGreat
open Go.RowKit Go.Rel
set_option linter.unusedVariables false
set_option linter.unusedSimpArgs false

set_option maxRecDepth 4000 in
set_option maxHeartbeats 8000000 in
theorem en11_0 (D N M A I J U F C Y : Int) (X O L : Bool) (w : World) (hr : rightB ⟨11, 0, D, N, M, A, I, J, U, F, C, Y, false, X, O, L⟩ = true) :
    Calls Tryz.prog 47 #[(⟨11, 0, D, N, M, A, I, J, U, F, C, Y, false, X, O, L⟩ : Ins).val] w fun e w' => e = .returned (.tuple #[.int .u32 (encV ⟨11, 0, D, N, M, A, I, J, U, F, C, Y, false, X, O, L⟩).1, .bool true]) ∧ Below w.heap.size w w' := by
  have R := rightF hr
  obtain ⟨xi, yi, zi⟩ := holds_of (lo := -1048576) (hi := 1048575) (st := 1) (n := I) R.imm
  clear zi
  have hE := (wd10 0 D N M A I J U F C Y false X O L hr).1
  simp only [show ((0 : Int) == 1) = false from rfl, show ((1 : Int) == 1) = true from rfl, cond_true, cond_false] at hE
  replace hE := show Hid _ from hE
  have HC := rright_c ⟨11, 0, D, N, M, A, I, J, U, F, C, Y, false, X, O, L⟩
  rw [hr] at HC
  replace HC := show Hid _ from HC
  clear R hr
  have BX := heap_alloc_new w (.cells #[vI 11, vI 0, vI D, vI N, vI M, vI A, vI I, vI J, vI U, vI F, vI C, vI Y, .bool false, .bool X, .bool O, .bool L] 47)
  have HB := below_alloc w (.cells #[vI 11, vI 0, vI D, vI N, vI M, vI A, vI I, vI J, vI U, vI F, vI C, vI Y, .bool false, .bool X, .bool O, .bool L] 47)
  have b0 : 0 ≤ lowI D 5 ∧ lowI D 5 < 32 := lowI_in _ 5
  have m0 : Hid (lowI D 5 = D % 32) := lowI_mod D 5 (by decide)
  have b1 : 0 ≤ lowI N 5 ∧ lowI N 5 < 32 := lowI_in _ 5
  have m1 : Hid (lowI N 5 = N % 32) := lowI_mod N 5 (by decide)
  have b2 : 0 ≤ lowI M 5 ∧ lowI M 5 < 32 := lowI_in _ 5
  have m2 : Hid (lowI M 5 = M % 32) := lowI_mod M 5 (by decide)
  have b3 : 0 ≤ lowI I 21 ∧ lowI I 21 < 2097152 := lowI_in _ 21
  have m3 : Hid (lowI I 21 = I % 2097152) := lowI_mod I 21 (by decide)
  have v0 := when_in X (x := 1073741824) (by decide)
  have e0 : whenI false 536870912 = 0 := rfl
  skip
  go_enter Tryz.func47, Tryz.ntmps47
  go_wp2_with (first | (go_at_call 119; refine (HC.out _).mono ?_; rintro e w1 ⟨rfl, hb⟩; replace BX := keepB BX hb; replace HB := thenH HB hb; clear hb HC; dsimp only; obtain ⟨c0, c1, c2, c3, c4, c5, c6, c7, c8, c9, c10, c11, c12, c13, c14, c15⟩ := cells16 BX) | ((with_reducible refine wpList_load_if rfl 47 _ rfl w.heap.size rfl 47 _ (0, 0) _ BX Tryz.underlying47 rfl (infoK _ rfl) ?_); simp only [Act.put, List.setIfInBounds_toArray, List.set_cons_succ, List.set_cons_zero]) | (go_at_call 120; refine (lowI_c _ _ (by decide) (by decide) _).mono ?_; rintro e w' ⟨rfl, rfl⟩; dsimp only))
  go_quiet ((first | (go_at_call 120; exact Calls.quiet_of_same (lowI_c _ _ (by decide) (by decide) _)) | (go_at_call 121; exact Calls.quiet_of_same (whenI_c _ _ _))))
  replace HB : Hid (Below w.heap.size w (w'.drewN nq)) := below_drewN HB.out nq
  replace BX := drewB BX nq
  clear c0 c1 c2 c3 c4 c5 c6 c7 c8 c9 c10 c11 c12 c13 c14 c15
  obtain ⟨c0, c1, c2, c3, c4, c5, c6, c7, c8, c9, c10, c11, c12, c13, c14, c15⟩ := cells16 BX
  generalize w'.drewN nq = w2 at *
  go_wp2_with (go_at_call 120; refine (lowI_c _ _ (by decide) (by decide) _).mono ?_; rintro e w' ⟨rfl, rfl⟩; dsimp only)
  go_ret2
  refine ⟨ret_tw ?_, HB.out⟩
  rw [hE.out]
  clear hE HB c0 c1 c2 c3 c4 c5 c6 c7 c8 c9 c10 c11 c12 c13 c14 c15
  replace m0 := m0.out
  replace m1 := m1.out
  replace m2 := m2.out
  replace m3 := m3.out
  omega
set_option maxRecDepth 4000 in
set_option maxHeartbeats 8000000 in
theorem en11_1 (D N M A I J U F C Y : Int) (X O L : Bool) (w : World) (hr : rightB ⟨11, 1, D, N, M, A, I, J, U, F, C, Y, false, X, O, L⟩ = true) :
    Calls Tryz.prog 47 #[(⟨11, 1, D, N, M, A, I, J, U, F, C, Y, false, X, O, L⟩ : Ins).val] w fun e w' => e = .returned (.tuple #[.int .u32 (encV ⟨11, 1, D, N, M, A, I, J, U, F, C, Y, false, X, O, L⟩).1, .bool true]) ∧ Below w.heap.size w w' := by
  have R := rightF hr
  obtain ⟨xi, yi, zi⟩ := holds_of (lo := -4294967296) (hi := 4294963200) (st := 4096) (n := I) R.imm
  have t0 : -1048576 ≤ I.tdiv 4096 ∧ I.tdiv 4096 ≤ 1048575 := by obtain ⟨c, hc⟩ := of_tmod zi; rw [hc, Int.mul_tdiv_cancel _ (by decide)]; omega
  clear zi
  have hE := (wd10 1 D N M A I J U F C Y false X O L hr).1
  simp only [show ((0 : Int) == 1) = false from rfl, show ((1 : Int) == 1) = true from rfl, cond_true, cond_false] at hE
  replace hE := show Hid _ from hE
  have HC := rright_c ⟨11, 1, D, N, M, A, I, J, U, F, C, Y, false, X, O, L⟩
  rw [hr] at HC
  replace HC := show Hid _ from HC
  clear R hr
  have BX := heap_alloc_new w (.cells #[vI 11, vI 1, vI D, vI N, vI M, vI A, vI I, vI J, vI U, vI F, vI C, vI Y, .bool false, .bool X, .bool O, .bool L] 47)
  have HB := below_alloc w (.cells #[vI 11, vI 1, vI D, vI N, vI M, vI A, vI I, vI J, vI U, vI F, vI C, vI Y, .bool false, .bool X, .bool O, .bool L] 47)
  have b0 : 0 ≤ lowI D 5 ∧ lowI D 5 < 32 := lowI_in _ 5
  have m0 : Hid (lowI D 5 = D % 32) := lowI_mod D 5 (by decide)
  have b1 : 0 ≤ lowI N 5 ∧ lowI N 5 < 32 := lowI_in _ 5
  have m1 : Hid (lowI N 5 = N % 32) := lowI_mod N 5 (by decide)
  have b2 : 0 ≤ lowI M 5 ∧ lowI M 5 < 32 := lowI_in _ 5
  have m2 : Hid (lowI M 5 = M % 32) := lowI_mod M 5 (by decide)
  have b3 : 0 ≤ lowI I 21 ∧ lowI I 21 < 2097152 := lowI_in _ 21
  have m3 : Hid (lowI I 21 = I % 2097152) := lowI_mod I 21 (by decide)
  have b4 : 0 ≤ lowI (I.tdiv 4096) 21 ∧ lowI (I.tdiv 4096) 21 < 2097152 := lowI_in _ 21
  have m4 : Hid (lowI (I.tdiv 4096) 21 = (I.tdiv 4096) % 2097152) := lowI_mod (I.tdiv 4096) 21 (by decide)
  have v0 := when_in X (x := 1073741824) (by decide)
  have e0 : whenI false 536870912 = 0 := rfl
  skip
  go_enter Tryz.func47, Tryz.ntmps47
  go_wp2_with (first | (go_at_call 119; refine (HC.out _).mono ?_; rintro e w1 ⟨rfl, hb⟩; replace BX := keepB BX hb; replace HB := thenH HB hb; clear hb HC; dsimp only; obtain ⟨c0, c1, c2, c3, c4, c5, c6, c7, c8, c9, c10, c11, c12, c13, c14, c15⟩ := cells16 BX) | ((with_reducible refine wpList_load_if rfl 47 _ rfl w.heap.size rfl 47 _ (0, 0) _ BX Tryz.underlying47 rfl (infoK _ rfl) ?_); simp only [Act.put, List.setIfInBounds_toArray, List.set_cons_succ, List.set_cons_zero]) | (go_at_call 120; refine (lowI_c _ _ (by decide) (by decide) _).mono ?_; rintro e w' ⟨rfl, rfl⟩; dsimp only))
  go_quiet ((first | (go_at_call 120; exact Calls.quiet_of_same (lowI_c _ _ (by decide) (by decide) _)) | (go_at_call 121; exact Calls.quiet_of_same (whenI_c _ _ _))))
  replace HB : Hid (Below w.heap.size w (w'.drewN nq)) := below_drewN HB.out nq
  replace BX := drewB BX nq
  clear c0 c1 c2 c3 c4 c5 c6 c7 c8 c9 c10 c11 c12 c13 c14 c15
  obtain ⟨c0, c1, c2, c3, c4, c5, c6, c7, c8, c9, c10, c11, c12, c13, c14, c15⟩ := cells16 BX
  generalize w'.drewN nq = w2 at *
  go_wp2_with (go_at_call 120; refine (lowI_c _ _ (by decide) (by decide) _).mono ?_; rintro e w' ⟨rfl, rfl⟩; dsimp only)
  go_ret2
  refine ⟨ret_tw ?_, HB.out⟩
  rw [hE.out]
  clear hE HB c0 c1 c2 c3 c4 c5 c6 c7 c8 c9 c10 c11 c12 c13 c14 c15
  replace m0 := m0.out
  replace m1 := m1.out
  replace m2 := m2.out
  replace m3 := m3.out
  replace m4 := m4.out
  omega
set_option maxRecDepth 4000 in
set_option maxHeartbeats 8000000 in
theorem en12 (S D N M A I J U F C Y : Int) (X O L : Bool) (w : World) (hr : rightB ⟨12, S, D, N, M, A, I, J, U, F, C, Y, false, X, O, L⟩ = true) :
    Calls Tryz.prog 47 #[(⟨12, S, D, N, M, A, I, J, U, F, C, Y, false, X, O, L⟩ : Ins).val] w fun e w' => e = .returned (.tuple #[.int .u32 (encV ⟨12, S, D, N, M, A, I, J, U, F, C, Y, false, X, O, L⟩).1, .bool true]) ∧ Below w.heap.size w w' := by
  have R := rightF hr
  obtain ⟨x0, y0, z0⟩ := holds_of (lo := -134217728) (hi := 134217724) (st := 4) (n := I) R.imm
  have t0 : -33554432 ≤ I.tdiv 4 ∧ I.tdiv 4 ≤ 33554431 := by obtain ⟨c, hc⟩ := of_tmod z0; rw [hc, Int.mul_tdiv_cancel _ (by decide)]; omega
  clear z0
  obtain rfl : S = 0 := zero_of R.sub
  have hE := (wd11 0 D N M A I J U F C Y false X O L hr).1
  replace hE := show Hid _ from hE
  have HC := rright_c ⟨12, 0, D, N, M, A, I, J, U, F, C, Y, false, X, O, L⟩
  rw [hr] at HC
  replace HC := show Hid _ from HC
  clear R hr
  have BX := heap_alloc_new w (.cells #[vI 12, vI 0, vI D, vI N, vI M, vI A, vI I, vI J, vI U, vI F, vI C, vI Y, .bool false, .bool X, .bool O, .bool L] 47)
  have HB := below_alloc w (.cells #[vI 12, vI 0, vI D, vI N, vI M, vI A, vI I, vI J, vI U, vI F, vI C, vI Y, .bool false, .bool X, .bool O, .bool L] 47)
  have b0 : 0 ≤ lowI D 5 ∧ lowI D 5 < 32 := lowI_in _ 5
  have m0 : Hid (lowI D 5 = D % 32) := lowI_mod D 5 (by decide)
  have b1 : 0 ≤ lowI N 5 ∧ lowI N 5 < 32 := lowI_in _ 5
  have m1 : Hid (lowI N 5 = N % 32) := lowI_mod N 5 (by decide)
  have b2 : 0 ≤ lowI M 5 ∧ lowI M 5 < 32 := lowI_in _ 5
  have m2 : Hid (lowI M 5 = M % 32) := lowI_mod M 5 (by decide)
  have b3 : 0 ≤ lowI (I.tdiv 4) 26 ∧ lowI (I.tdiv 4) 26 < 67108864 := lowI_in _ 26
  have m3 : Hid (lowI (I.tdiv 4) 26 = (I.tdiv 4) % 67108864) := lowI_mod (I.tdiv 4) 26 (by decide)
  have v0 := when_in X (x := 1073741824) (by decide)
  have v1 := when_in L (x := 2147483648) (by decide)
  have e0 : whenI false 536870912 = 0 := rfl
  skip
  go_enter Tryz.func47, Tryz.ntmps47
  go_wp2_with (first | (go_at_call 119; refine (HC.out _).mono ?_; rintro e w1 ⟨rfl, hb⟩; replace BX := keepB BX hb; replace HB := thenH HB hb; clear hb HC; dsimp only; obtain ⟨c0, c1, c2, c3, c4, c5, c6, c7, c8, c9, c10, c11, c12, c13, c14, c15⟩ := cells16 BX) | ((with_reducible refine wpList_load_if rfl 47 _ rfl w.heap.size rfl 47 _ (0, 0) _ BX Tryz.underlying47 rfl (infoK _ rfl) ?_); simp only [Act.put, List.setIfInBounds_toArray, List.set_cons_succ, List.set_cons_zero]) | (go_at_call 120; refine (lowI_c _ _ (by decide) (by decide) _).mono ?_; rintro e w' ⟨rfl, rfl⟩; dsimp only))
  go_quiet ((first | (go_at_call 120; exact Calls.quiet_of_same (lowI_c _ _ (by decide) (by decide) _)) | (go_at_call 121; exact Calls.quiet_of_same (whenI_c _ _ _))))
  replace HB : Hid (Below w.heap.size w (w'.drewN nq)) := below_drewN HB.out nq
  replace BX := drewB BX nq
  clear c0 c1 c2 c3 c4 c5 c6 c7 c8 c9 c10 c11 c12 c13 c14 c15
  obtain ⟨c0, c1, c2, c3, c4, c5, c6, c7, c8, c9, c10, c11, c12, c13, c14, c15⟩ := cells16 BX
  generalize w'.drewN nq = w2 at *
  clear BX
  go_wp2_with fail
  go_quiet ((first | (go_at_call 120; exact Calls.quiet_of_same (lowI_c _ _ (by decide) (by decide) _)) | (go_at_call 121; exact Calls.quiet_of_same (whenI_c _ _ _))))
  go_wp2
  go_ret2
  refine ⟨ret_tw ?_, below_drewN HB.out _⟩
  rw [hE.out]
  clear hE HB c0 c1 c2 c3 c4 c5 c6 c7 c8 c9 c10 c11 c12 c13 c14 c15
  replace m0 := m0.out
  replace m1 := m1.out
  replace m2 := m2.out
  replace m3 := m3.out
  omega
set_option maxRecDepth 4000 in
set_option maxHeartbeats 8000000 in
theorem en13 (S D N M A I J U F C Y : Int) (X O L : Bool) (w : World) (hr : rightB ⟨13, S, D, N, M, A, I, J, U, F, C, Y, false, X, O, L⟩ = true) :
    Calls Tryz.prog 47 #[(⟨13, S, D, N, M, A, I, J, U, F, C, Y, false, X, O, L⟩ : Ins).val] w fun e w' => e = .returned (.tuple #[.int .u32 (encV ⟨13, S, D, N, M, A, I, J, U, F, C, Y, false, X, O, L⟩).1, .bool true]) ∧ Below w.heap.size w w' := by
  have R := rightF hr
  obtain ⟨x0, y0, z0⟩ := holds_of (lo := -1048576) (hi := 1048572) (st := 4) (n := I) R.imm
  have t0 : -262144 ≤ I.tdiv 4 ∧ I.tdiv 4 ≤ 262143 := by obtain ⟨c, hc⟩ := of_tmod z0; rw [hc, Int.mul_tdiv_cancel _ (by decide)]; omega
  clear z0
  obtain ⟨x1, y1, z1⟩ := holds_of (lo := 0) (hi := 15) (st := 1) (n := C) R.cond
  clear z1
  obtain rfl : S = 0 := zero_of R.sub
  have hE := (wd12 0 D N M A I J U F C Y false X O L hr).1
  replace hE := show Hid _ from hE
  have HC := rright_c ⟨13, 0, D, N, M, A, I, J, U, F, C, Y, false, X, O, L⟩
  rw [hr] at HC
  replace HC := show Hid _ from HC
  clear R hr
  have BX := heap_alloc_new w (.cells #[vI 13, vI 0, vI D, vI N, vI M, vI A, vI I, vI J, vI U, vI F, vI C, vI Y, .bool false, .bool X, .bool O, .bool L] 47)
  have HB := below_alloc w (.cells #[vI 13, vI 0, vI D, vI N, vI M, vI A, vI I, vI J, vI U, vI F, vI C, vI Y, .bool false, .bool X, .bool O, .bool L] 47)
  have b0 : 0 ≤ lowI D 5 ∧ lowI D 5 < 32 := lowI_in _ 5
  have m0 : Hid (lowI D 5 = D % 32) := lowI_mod D 5 (by decide)
  have b1 : 0 ≤ lowI N 5 ∧ lowI N 5 < 32 := lowI_in _ 5
  have m1 : Hid (lowI N 5 = N % 32) := lowI_mod N 5 (by decide)
  have b2 : 0 ≤ lowI M 5 ∧ lowI M 5 < 32 := lowI_in _ 5
  have m2 : Hid (lowI M 5 = M % 32) := lowI_mod M 5 (by decide)
  have b3 : 0 ≤ lowI (I.tdiv 4) 19 ∧ lowI (I.tdiv 4) 19 < 524288 := lowI_in _ 19
  have m3 : Hid (lowI (I.tdiv 4) 19 = (I.tdiv 4) % 524288) := lowI_mod (I.tdiv 4) 19 (by decide)
  have b4 : 0 ≤ lowI C 4 ∧ lowI C 4 < 16 := lowI_in _ 4
  have m4 : Hid (lowI C 4 = C % 16) := lowI_mod C 4 (by decide)
  have v0 := when_in X (x := 1073741824) (by decide)
  have e0 : whenI false 536870912 = 0 := rfl
  skip
  go_enter Tryz.func47, Tryz.ntmps47
  go_wp2_with (first | (go_at_call 119; refine (HC.out _).mono ?_; rintro e w1 ⟨rfl, hb⟩; replace BX := keepB BX hb; replace HB := thenH HB hb; clear hb HC; dsimp only; obtain ⟨c0, c1, c2, c3, c4, c5, c6, c7, c8, c9, c10, c11, c12, c13, c14, c15⟩ := cells16 BX) | ((with_reducible refine wpList_load_if rfl 47 _ rfl w.heap.size rfl 47 _ (0, 0) _ BX Tryz.underlying47 rfl (infoK _ rfl) ?_); simp only [Act.put, List.setIfInBounds_toArray, List.set_cons_succ, List.set_cons_zero]) | (go_at_call 120; refine (lowI_c _ _ (by decide) (by decide) _).mono ?_; rintro e w' ⟨rfl, rfl⟩; dsimp only))
  go_quiet ((first | (go_at_call 120; exact Calls.quiet_of_same (lowI_c _ _ (by decide) (by decide) _)) | (go_at_call 121; exact Calls.quiet_of_same (whenI_c _ _ _))))
  replace HB : Hid (Below w.heap.size w (w'.drewN nq)) := below_drewN HB.out nq
  replace BX := drewB BX nq
  clear c0 c1 c2 c3 c4 c5 c6 c7 c8 c9 c10 c11 c12 c13 c14 c15
  obtain ⟨c0, c1, c2, c3, c4, c5, c6, c7, c8, c9, c10, c11, c12, c13, c14, c15⟩ := cells16 BX
  generalize w'.drewN nq = w2 at *
  clear BX
  go_wp2_with fail
  go_quiet ((first | (go_at_call 120; exact Calls.quiet_of_same (lowI_c _ _ (by decide) (by decide) _)) | (go_at_call 121; exact Calls.quiet_of_same (whenI_c _ _ _))))
  go_wp2
  go_ret2
  refine ⟨ret_tw ?_, below_drewN HB.out _⟩
  rw [hE.out]
  clear hE HB c0 c1 c2 c3 c4 c5 c6 c7 c8 c9 c10 c11 c12 c13 c14 c15
  replace m0 := m0.out
  replace m1 := m1.out
  replace m2 := m2.out
  replace m3 := m3.out
  replace m4 := m4.out
  omega
set_option maxRecDepth 4000 in
set_option maxHeartbeats 8000000 in
theorem en14 (S D N M A I J U F C Y : Int) (X O L : Bool) (w : World) (hr : rightB ⟨14, S, D, N, M, A, I, J, U, F, C, Y, false, X, O, L⟩ = true) :
    Calls Tryz.prog 47 #[(⟨14, S, D, N, M, A, I, J, U, F, C, Y, false, X, O, L⟩ : Ins).val] w fun e w' => e = .returned (.tuple #[.int .u32 (encV ⟨14, S, D, N, M, A, I, J, U, F, C, Y, false, X, O, L⟩).1, .bool true]) ∧ Below w.heap.size w w' := by
  have R := rightF hr
  obtain ⟨x0, y0, z0⟩ := holds_of (lo := -1048576) (hi := 1048572) (st := 4) (n := I) R.imm
  have t0 : -262144 ≤ I.tdiv 4 ∧ I.tdiv 4 ≤ 262143 := by obtain ⟨c, hc⟩ := of_tmod z0; rw [hc, Int.mul_tdiv_cancel _ (by decide)]; omega
  clear z0
  obtain rfl : S = 0 := zero_of R.sub
  have hE := (wd13 0 D N M A I J U F C Y false X O L hr).1
  replace hE := show Hid _ from hE
  have HC := rright_c ⟨14, 0, D, N, M, A, I, J, U, F, C, Y, false, X, O, L⟩
  rw [hr] at HC
  replace HC := show Hid _ from HC
  clear R hr
  have BX := heap_alloc_new w (.cells #[vI 14, vI 0, vI D, vI N, vI M, vI A, vI I, vI J, vI U, vI F, vI C, vI Y, .bool false, .bool X, .bool O, .bool L] 47)
  have HB := below_alloc w (.cells #[vI 14, vI 0, vI D, vI N, vI M, vI A, vI I, vI J, vI U, vI F, vI C, vI Y, .bool false, .bool X, .bool O, .bool L] 47)
  have b0 : 0 ≤ lowI D 5 ∧ lowI D 5 < 32 := lowI_in _ 5
  have m0 : Hid (lowI D 5 = D % 32) := lowI_mod D 5 (by decide)
  have b1 : 0 ≤ lowI N 5 ∧ lowI N 5 < 32 := lowI_in _ 5
  have m1 : Hid (lowI N 5 = N % 32) := lowI_mod N 5 (by decide)
  have b2 : 0 ≤ lowI M 5 ∧ lowI M 5 < 32 := lowI_in _ 5
  have m2 : Hid (lowI M 5 = M % 32) := lowI_mod M 5 (by decide)
  have b3 : 0 ≤ lowI (I.tdiv 4) 19 ∧ lowI (I.tdiv 4) 19 < 524288 := lowI_in _ 19
  have m3 : Hid (lowI (I.tdiv 4) 19 = (I.tdiv 4) % 524288) := lowI_mod (I.tdiv 4) 19 (by decide)
  have v0 := when_in X (x := 1073741824) (by decide)
  have v1 := when_in O (x := 16777216) (by decide)
  have e0 : whenI false 536870912 = 0 := rfl
  skip
  go_enter Tryz.func47, Tryz.ntmps47
  go_wp2_with (first | (go_at_call 119; refine (HC.out _).mono ?_; rintro e w1 ⟨rfl, hb⟩; replace BX := keepB BX hb; replace HB := thenH HB hb; clear hb HC; dsimp only; obtain ⟨c0, c1, c2, c3, c4, c5, c6, c7, c8, c9, c10, c11, c12, c13, c14, c15⟩ := cells16 BX) | ((with_reducible refine wpList_load_if rfl 47 _ rfl w.heap.size rfl 47 _ (0, 0) _ BX Tryz.underlying47 rfl (infoK _ rfl) ?_); simp only [Act.put, List.setIfInBounds_toArray, List.set_cons_succ, List.set_cons_zero]) | (go_at_call 120; refine (lowI_c _ _ (by decide) (by decide) _).mono ?_; rintro e w' ⟨rfl, rfl⟩; dsimp only))
  go_quiet ((first | (go_at_call 120; exact Calls.quiet_of_same (lowI_c _ _ (by decide) (by decide) _)) | (go_at_call 121; exact Calls.quiet_of_same (whenI_c _ _ _))))
  replace HB : Hid (Below w.heap.size w (w'.drewN nq)) := below_drewN HB.out nq
  replace BX := drewB BX nq
  clear c0 c1 c2 c3 c4 c5 c6 c7 c8 c9 c10 c11 c12 c13 c14 c15
  obtain ⟨c0, c1, c2, c3, c4, c5, c6, c7, c8, c9, c10, c11, c12, c13, c14, c15⟩ := cells16 BX
  generalize w'.drewN nq = w2 at *
  clear BX
  go_wp2_with fail
  go_quiet ((first | (go_at_call 120; exact Calls.quiet_of_same (lowI_c _ _ (by decide) (by decide) _)) | (go_at_call 121; exact Calls.quiet_of_same (whenI_c _ _ _))))
  go_wp2
  go_ret2
  refine ⟨ret_tw ?_, below_drewN HB.out _⟩
  rw [hE.out]
  clear hE HB c0 c1 c2 c3 c4 c5 c6 c7 c8 c9 c10 c11 c12 c13 c14 c15
  replace m0 := m0.out
  replace m1 := m1.out
  replace m2 := m2.out
  replace m3 := m3.out
  omega
set_option maxRecDepth 4000 in
set_option maxHeartbeats 8000000 in
theorem en15 (S D N M A I J U F C Y : Int) (X O L : Bool) (w : World) (hr : rightB ⟨15, S, D, N, M, A, I, J, U, F, C, Y, false, X, O, L⟩ = true) :
    Calls Tryz.prog 47 #[(⟨15, S, D, N, M, A, I, J, U, F, C, Y, false, X, O, L⟩ : Ins).val] w fun e w' => e = .returned (.tuple #[.int .u32 (encV ⟨15, S, D, N, M, A, I, J, U, F, C, Y, false, X, O, L⟩).1, .bool true]) ∧ Below w.heap.size w w' := by
  have R := rightF hr
  obtain ⟨x0, y0, z0⟩ := holds_of (lo := -32768) (hi := 32764) (st := 4) (n := I) R.imm
  have t0 : -8192 ≤ I.tdiv 4 ∧ I.tdiv 4 ≤ 8191 := by obtain ⟨c, hc⟩ := of_tmod z0; rw [hc, Int.mul_tdiv_cancel _ (by decide)]; omega
  clear z0
  obtain ⟨x1, y1, z1⟩ := holds_of (lo := 0) (hi := 63) (st := 1) (n := U) R.amount
  clear z1
  obtain rfl : S = 0 := zero_of R.sub
  have hE := (wd14 0 D N M A I J U F C Y false X O L hr).1
  have nn0 : U.tdiv 32 = U / 32 := Int.tdiv_eq_ediv_of_nonneg (by omega)
  have nn1 : U.tmod 32 = U % 32 := Int.tmod_eq_emod_of_nonneg (by omega)
  rw [nn0] at hE
  rw [nn1] at hE
  clear nn0 nn1
  replace hE := show Hid _ from hE
  have HC := rright_c ⟨15, 0, D, N, M, A, I, J, U, F, C, Y, false, X, O, L⟩
  rw [hr] at HC
  replace HC := show Hid _ from HC
  clear R hr
  have BX := heap_alloc_new w (.cells #[vI 15, vI 0, vI D, vI N, vI M, vI A, vI I, vI J, vI U, vI F, vI C, vI Y, .bool false, .bool X, .bool O, .bool L] 47)
  have HB := below_alloc w (.cells #[vI 15, vI 0, vI D, vI N, vI M, vI A, vI I, vI J, vI U, vI F, vI C, vI Y, .bool false, .bool X, .bool O, .bool L] 47)
  have b0 : 0 ≤ lowI D 5 ∧ lowI D 5 < 32 := lowI_in _ 5
  have m0 : Hid (lowI D 5 = D % 32) := lowI_mod D 5 (by decide)
  have b1 : 0 ≤ lowI N 5 ∧ lowI N 5 < 32 := lowI_in _ 5
  have m1 : Hid (lowI N 5 = N % 32) := lowI_mod N 5 (by decide)
  have b2 : 0 ≤ lowI M 5 ∧ lowI M 5 < 32 := lowI_in _ 5
  have m2 : Hid (lowI M 5 = M % 32) := lowI_mod M 5 (by decide)
  have b3 : 0 ≤ lowI (I.tdiv 4) 14 ∧ lowI (I.tdiv 4) 14 < 16384 := lowI_in _ 14
  have m3 : Hid (lowI (I.tdiv 4) 14 = (I.tdiv 4) % 16384) := lowI_mod (I.tdiv 4) 14 (by decide)
  have v0 := when_in X (x := 1073741824) (by decide)
  have v1 := when_in O (x := 16777216) (by decide)
  have e0 : whenI false 536870912 = 0 := rfl
  skip
  go_enter Tryz.func47, Tryz.ntmps47
  go_wp2_with (first | (go_at_call 119; refine (HC.out _).mono ?_; rintro e w1 ⟨rfl, hb⟩; replace BX := keepB BX hb; replace HB := thenH HB hb; clear hb HC; dsimp only; obtain ⟨c0, c1, c2, c3, c4, c5, c6, c7, c8, c9, c10, c11, c12, c13, c14, c15⟩ := cells16 BX) | ((with_reducible refine wpList_load_if rfl 47 _ rfl w.heap.size rfl 47 _ (0, 0) _ BX Tryz.underlying47 rfl (infoK _ rfl) ?_); simp only [Act.put, List.setIfInBounds_toArray, List.set_cons_succ, List.set_cons_zero]) | (go_at_call 120; refine (lowI_c _ _ (by decide) (by decide) _).mono ?_; rintro e w' ⟨rfl, rfl⟩; dsimp only))
  go_quiet ((first | (go_at_call 120; exact Calls.quiet_of_same (lowI_c _ _ (by decide) (by decide) _)) | (go_at_call 121; exact Calls.quiet_of_same (whenI_c _ _ _))))
  replace HB : Hid (Below w.heap.size w (w'.drewN nq)) := below_drewN HB.out nq
  replace BX := drewB BX nq
  clear c0 c1 c2 c3 c4 c5 c6 c7 c8 c9 c10 c11 c12 c13 c14 c15
  obtain ⟨c0, c1, c2, c3, c4, c5, c6, c7, c8, c9, c10, c11, c12, c13, c14, c15⟩ := cells16 BX
  generalize w'.drewN nq = w2 at *
  clear BX
  go_wp2_with fail
  go_quiet ((first | (go_at_call 120; exact Calls.quiet_of_same (lowI_c _ _ (by decide) (by decide) _)) | (go_at_call 121; exact Calls.quiet_of_same (whenI_c _ _ _))))
  go_wp2
  go_ret2
  refine ⟨ret_tw ?_, below_drewN HB.out _⟩
  rw [hE.out]
  clear hE HB c0 c1 c2 c3 c4 c5 c6 c7 c8 c9 c10 c11 c12 c13 c14 c15
  replace m0 := m0.out
  replace m1 := m1.out
  replace m2 := m2.out
  replace m3 := m3.out
  omega
set_option maxRecDepth 4000 in
set_option maxHeartbeats 8000000 in
theorem en16 (S D N M A I J U F C Y : Int) (X O L : Bool) (w : World) (hr : rightB ⟨16, S, D, N, M, A, I, J, U, F, C, Y, false, X, O, L⟩ = true) :
    Calls Tryz.prog 47 #[(⟨16, S, D, N, M, A, I, J, U, F, C, Y, false, X, O, L⟩ : Ins).val] w fun e w' => e = .returned (.tuple #[.int .u32 (encV ⟨16, S, D, N, M, A, I, J, U, F, C, Y, false, X, O, L⟩).1, .bool true]) ∧ Below w.heap.size w w' := by
  have R := rightF hr
  obtain ⟨x0, y0, z0⟩ := holds_of (lo := 0) (hi := 2) (st := 1) (n := S) R.sub
  clear z0
  have hE := (wd15 S D N M A I J U F C Y false X O L hr).1
  replace hE := show Hid _ from hE
  have HC := rright_c ⟨16, S, D, N, M, A, I, J, U, F, C, Y, false, X, O, L⟩
  rw [hr] at HC
  replace HC := show Hid _ from HC
  clear R hr
  have BX := heap_alloc_new w (.cells #[vI 16, vI S, vI D, vI N, vI M, vI A, vI I, vI J, vI U, vI F, vI C, vI Y, .bool false, .bool X, .bool O, .bool L] 47)
  have HB := below_alloc w (.cells #[vI 16, vI S, vI D, vI N, vI M, vI A, vI I, vI J, vI U, vI F, vI C, vI Y, .bool false, .bool X, .bool O, .bool L] 47)
  have b0 : 0 ≤ lowI D 5 ∧ lowI D 5 < 32 := lowI_in _ 5
  have m0 : Hid (lowI D 5 = D % 32) := lowI_mod D 5 (by decide)
  have b1 : 0 ≤ lowI N 5 ∧ lowI N 5 < 32 := lowI_in _ 5
  have m1 : Hid (lowI N 5 = N % 32) := lowI_mod N 5 (by decide)
  have b2 : 0 ≤ lowI M 5 ∧ lowI M 5 < 32 := lowI_in _ 5
  have m2 : Hid (lowI M 5 = M % 32) := lowI_mod M 5 (by decide)
  have v0 := when_in X (x := 1073741824) (by decide)
  have e0 : whenI false 536870912 = 0 := rfl
  skip
  go_enter Tryz.func47, Tryz.ntmps47
  go_wp2_with (first | (go_at_call 119; refine (HC.out _).mono ?_; rintro e w1 ⟨rfl, hb⟩; replace BX := keepB BX hb; replace HB := thenH HB hb; clear hb HC; dsimp only; obtain ⟨c0, c1, c2, c3, c4, c5, c6, c7, c8, c9, c10, c11, c12, c13, c14, c15⟩ := cells16 BX) | ((with_reducible refine wpList_load_if rfl 47 _ rfl w.heap.size rfl 47 _ (0, 0) _ BX Tryz.underlying47 rfl (infoK _ rfl) ?_); simp only [Act.put, List.setIfInBounds_toArray, List.set_cons_succ, List.set_cons_zero]) | (go_at_call 120; refine (lowI_c _ _ (by decide) (by decide) _).mono ?_; rintro e w' ⟨rfl, rfl⟩; dsimp only))
  go_quiet ((first | (go_at_call 120; exact Calls.quiet_of_same (lowI_c _ _ (by decide) (by decide) _)) | (go_at_call 121; exact Calls.quiet_of_same (whenI_c _ _ _))))
  replace HB : Hid (Below w.heap.size w (w'.drewN nq)) := below_drewN HB.out nq
  replace BX := drewB BX nq
  clear c0 c1 c2 c3 c4 c5 c6 c7 c8 c9 c10 c11 c12 c13 c14 c15
  obtain ⟨c0, c1, c2, c3, c4, c5, c6, c7, c8, c9, c10, c11, c12, c13, c14, c15⟩ := cells16 BX
  generalize w'.drewN nq = w2 at *
  go_wp2_with (go_at_call 120; refine (lowI_c _ _ (by decide) (by decide) _).mono ?_; rintro e w' ⟨rfl, rfl⟩; dsimp only)
  go_ret2
  refine ⟨ret_tw ?_, HB.out⟩
  rw [hE.out]
  clear hE HB c0 c1 c2 c3 c4 c5 c6 c7 c8 c9 c10 c11 c12 c13 c14 c15
  replace m0 := m0.out
  replace m1 := m1.out
  replace m2 := m2.out
  omega
end Go.Proofs.YtbjcdpmhmebjnaaGreat
