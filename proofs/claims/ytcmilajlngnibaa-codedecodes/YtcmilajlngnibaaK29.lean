/- Encode of the document's own answer to chapter 3: contracts, an Op each. -/
import Derived.Test.YtcmilajlngnibaaK26
namespace Go.Proofs.Ytcmilajlngnibaa
open Go.RowKit Go.Rel
set_option linter.unusedVariables false
set_option linter.unusedSimpArgs false

set_option maxRecDepth 4000 in
set_option maxHeartbeats 8000000 in
theorem en11_0 (rd rn rm ra imm imm2 amount shift cond sys : Int) (minus not link : Bool) (w : World) (hr : rightB ⟨11, 0, rd, rn, rm, ra, imm, imm2, amount, shift, cond, sys, false, minus, not, link⟩ = true) :
    Calls Try.prog 12 #[(⟨11, 0, rd, rn, rm, ra, imm, imm2, amount, shift, cond, sys, false, minus, not, link⟩ : Ins).val] w fun e w' => e = .returned (.tuple #[.int .u32 (encV ⟨11, 0, rd, rn, rm, ra, imm, imm2, amount, shift, cond, sys, false, minus, not, link⟩).1, .bool true]) ∧ Below w.heap.size w w' := by
  have R := rightF hr
  obtain ⟨xi, yi, zi⟩ := holds_of (lo := -1048576) (hi := 1048575) (st := 1) (n := imm) R.imm
  clear zi
  have hE := (wd10 0 rd rn rm ra imm imm2 amount shift cond sys false minus not link hr).1
  simp only [show ((0 : Int) == 1) = false from rfl, show ((1 : Int) == 1) = true from rfl, cond_true, cond_false] at hE
  replace hE := show Hid _ from hE
  have HC := rright_c ⟨11, 0, rd, rn, rm, ra, imm, imm2, amount, shift, cond, sys, false, minus, not, link⟩
  rw [hr] at HC
  replace HC := show Hid _ from HC
  clear R hr
  have BX := heap_alloc_new w (.cells #[vI 11, vI 0, vI rd, vI rn, vI rm, vI ra, vI imm, vI imm2, vI amount, vI shift, vI cond, vI sys, .bool false, .bool minus, .bool not, .bool link] 25)
  have HB := below_alloc w (.cells #[vI 11, vI 0, vI rd, vI rn, vI rm, vI ra, vI imm, vI imm2, vI amount, vI shift, vI cond, vI sys, .bool false, .bool minus, .bool not, .bool link] 25)
  have b0 : 0 ≤ lowI rd 5 ∧ lowI rd 5 < 32 := lowI_in _ 5
  have m0 : Hid (lowI rd 5 = rd % 32) := lowI_mod rd 5 (by decide)
  have b1 : 0 ≤ lowI rn 5 ∧ lowI rn 5 < 32 := lowI_in _ 5
  have m1 : Hid (lowI rn 5 = rn % 32) := lowI_mod rn 5 (by decide)
  have b2 : 0 ≤ lowI rm 5 ∧ lowI rm 5 < 32 := lowI_in _ 5
  have m2 : Hid (lowI rm 5 = rm % 32) := lowI_mod rm 5 (by decide)
  have b3 : 0 ≤ lowI imm 21 ∧ lowI imm 21 < 2097152 := lowI_in _ 21
  have m3 : Hid (lowI imm 21 = imm % 2097152) := lowI_mod imm 21 (by decide)
  have v0 := when_in minus (x := 1073741824) (by decide)
  have e0 : whenI false 536870912 = 0 := rfl
  skip
  go_enter Try.func12, Try.ntmps12
  go_wp2_with (first | (go_at_call 20; refine (HC.out _).mono ?_; rintro e w1 ⟨rfl, hb⟩; replace BX : w1.heap[w.heap.size]? = some (.cells #[vI 11, vI 0, vI rd, vI rn, vI rm, vI ra, vI imm, vI imm2, vI amount, vI shift, vI cond, vI sys, .bool false, .bool minus, .bool not, .bool link] 25) := (hb.block _ (Array.getElem?_eq_some_iff.1 BX).1).trans BX; replace HB : Hid (Below w.heap.size w w1) := HB.trans (hb.mono HB.size); clear hb HC; dsimp only; have c0 := cell_in BX 0 (v := vI 11) rfl; have c1 := cell_in BX 1 (v := vI 0) rfl; have c2 := cell_in BX 2 (v := vI rd) rfl; have c3 := cell_in BX 3 (v := vI rn) rfl; have c4 := cell_in BX 4 (v := vI rm) rfl; have c5 := cell_in BX 5 (v := vI ra) rfl; have c6 := cell_in BX 6 (v := vI imm) rfl; have c7 := cell_in BX 7 (v := vI imm2) rfl; have c8 := cell_in BX 8 (v := vI amount) rfl; have c9 := cell_in BX 9 (v := vI shift) rfl; have c10 := cell_in BX 10 (v := vI cond) rfl; have c11 := cell_in BX 11 (v := vI sys) rfl; have c12 := cell_in BX 12 (v := .bool false) rfl; have c13 := cell_in BX 13 (v := .bool minus) rfl; have c14 := cell_in BX 14 (v := .bool not) rfl; have c15 := cell_in BX 15 (v := .bool link) rfl) | ((with_reducible refine wpList_load_if rfl 25 _ rfl w.heap.size rfl 25 _ (0, 0) _ BX Try.underlying25 rfl (infoK _ rfl) ?_); simp only [Act.put, List.setIfInBounds_toArray, List.set_cons_succ, List.set_cons_zero]) | (go_at_call 21; refine (lowI_c _ _ (by decide) (by decide) _).mono ?_; rintro e w' ⟨rfl, rfl⟩; dsimp only))
  go_quiet ((first | (go_at_call 21; exact Calls.quiet_of_same (lowI_c _ _ (by decide) (by decide) _)) | (go_at_call 22; exact Calls.quiet_of_same (whenI_c _ _ _))))
  replace c0 : (w'.drewN nq).cell? ⟨w.heap.size, 0, none⟩ = some (vI 11) := c0
  replace c1 : (w'.drewN nq).cell? ⟨w.heap.size, 1, none⟩ = some (vI 0) := c1
  replace c2 : (w'.drewN nq).cell? ⟨w.heap.size, 2, none⟩ = some (vI rd) := c2
  replace c3 : (w'.drewN nq).cell? ⟨w.heap.size, 3, none⟩ = some (vI rn) := c3
  replace c4 : (w'.drewN nq).cell? ⟨w.heap.size, 4, none⟩ = some (vI rm) := c4
  replace c5 : (w'.drewN nq).cell? ⟨w.heap.size, 5, none⟩ = some (vI ra) := c5
  replace c6 : (w'.drewN nq).cell? ⟨w.heap.size, 6, none⟩ = some (vI imm) := c6
  replace c7 : (w'.drewN nq).cell? ⟨w.heap.size, 7, none⟩ = some (vI imm2) := c7
  replace c8 : (w'.drewN nq).cell? ⟨w.heap.size, 8, none⟩ = some (vI amount) := c8
  replace c9 : (w'.drewN nq).cell? ⟨w.heap.size, 9, none⟩ = some (vI shift) := c9
  replace c10 : (w'.drewN nq).cell? ⟨w.heap.size, 10, none⟩ = some (vI cond) := c10
  replace c11 : (w'.drewN nq).cell? ⟨w.heap.size, 11, none⟩ = some (vI sys) := c11
  replace c12 : (w'.drewN nq).cell? ⟨w.heap.size, 12, none⟩ = some (.bool false) := c12
  replace c13 : (w'.drewN nq).cell? ⟨w.heap.size, 13, none⟩ = some (.bool minus) := c13
  replace c14 : (w'.drewN nq).cell? ⟨w.heap.size, 14, none⟩ = some (.bool not) := c14
  replace c15 : (w'.drewN nq).cell? ⟨w.heap.size, 15, none⟩ = some (.bool link) := c15
  replace HB : Hid (Below w.heap.size w (w'.drewN nq)) := below_drewN HB.out nq
  replace BX : (w'.drewN nq).heap[w.heap.size]? = some (.cells #[vI 11, vI 0, vI rd, vI rn, vI rm, vI ra, vI imm, vI imm2, vI amount, vI shift, vI cond, vI sys, .bool false, .bool minus, .bool not, .bool link] 25) := BX
  generalize w'.drewN nq = w2 at *
  go_wp2_with (go_at_call 21; refine (lowI_c _ _ (by decide) (by decide) _).mono ?_; rintro e w' ⟨rfl, rfl⟩; dsimp only)
  go_ret2
  refine ⟨ret_tw ?_, HB.out⟩
  rw [hE.out]
  clear hE HB c0 c1 c2 c3 c4 c5 c6 c7 c8 c9 c10 c11 c12 c13 c14 c15
  replace m0 := m0.out
  replace m1 := m1.out
  replace m2 := m2.out
  replace m3 := m3.out
  omega
set_option maxRecDepth 4000 in
set_option maxHeartbeats 8000000 in
theorem en11_1 (rd rn rm ra imm imm2 amount shift cond sys : Int) (minus not link : Bool) (w : World) (hr : rightB ⟨11, 1, rd, rn, rm, ra, imm, imm2, amount, shift, cond, sys, false, minus, not, link⟩ = true) :
    Calls Try.prog 12 #[(⟨11, 1, rd, rn, rm, ra, imm, imm2, amount, shift, cond, sys, false, minus, not, link⟩ : Ins).val] w fun e w' => e = .returned (.tuple #[.int .u32 (encV ⟨11, 1, rd, rn, rm, ra, imm, imm2, amount, shift, cond, sys, false, minus, not, link⟩).1, .bool true]) ∧ Below w.heap.size w w' := by
  have R := rightF hr
  obtain ⟨xi, yi, zi⟩ := holds_of (lo := -4294967296) (hi := 4294963200) (st := 4096) (n := imm) R.imm
  have t0 : -1048576 ≤ imm.tdiv 4096 ∧ imm.tdiv 4096 ≤ 1048575 := by obtain ⟨c, hc⟩ := of_tmod zi; rw [hc, Int.mul_tdiv_cancel _ (by decide)]; omega
  clear zi
  have hE := (wd10 1 rd rn rm ra imm imm2 amount shift cond sys false minus not link hr).1
  simp only [show ((0 : Int) == 1) = false from rfl, show ((1 : Int) == 1) = true from rfl, cond_true, cond_false] at hE
  replace hE := show Hid _ from hE
  have HC := rright_c ⟨11, 1, rd, rn, rm, ra, imm, imm2, amount, shift, cond, sys, false, minus, not, link⟩
  rw [hr] at HC
  replace HC := show Hid _ from HC
  clear R hr
  have BX := heap_alloc_new w (.cells #[vI 11, vI 1, vI rd, vI rn, vI rm, vI ra, vI imm, vI imm2, vI amount, vI shift, vI cond, vI sys, .bool false, .bool minus, .bool not, .bool link] 25)
  have HB := below_alloc w (.cells #[vI 11, vI 1, vI rd, vI rn, vI rm, vI ra, vI imm, vI imm2, vI amount, vI shift, vI cond, vI sys, .bool false, .bool minus, .bool not, .bool link] 25)
  have b0 : 0 ≤ lowI rd 5 ∧ lowI rd 5 < 32 := lowI_in _ 5
  have m0 : Hid (lowI rd 5 = rd % 32) := lowI_mod rd 5 (by decide)
  have b1 : 0 ≤ lowI rn 5 ∧ lowI rn 5 < 32 := lowI_in _ 5
  have m1 : Hid (lowI rn 5 = rn % 32) := lowI_mod rn 5 (by decide)
  have b2 : 0 ≤ lowI rm 5 ∧ lowI rm 5 < 32 := lowI_in _ 5
  have m2 : Hid (lowI rm 5 = rm % 32) := lowI_mod rm 5 (by decide)
  have b3 : 0 ≤ lowI imm 21 ∧ lowI imm 21 < 2097152 := lowI_in _ 21
  have m3 : Hid (lowI imm 21 = imm % 2097152) := lowI_mod imm 21 (by decide)
  have b4 : 0 ≤ lowI (imm.tdiv 4096) 21 ∧ lowI (imm.tdiv 4096) 21 < 2097152 := lowI_in _ 21
  have m4 : Hid (lowI (imm.tdiv 4096) 21 = (imm.tdiv 4096) % 2097152) := lowI_mod (imm.tdiv 4096) 21 (by decide)
  have v0 := when_in minus (x := 1073741824) (by decide)
  have e0 : whenI false 536870912 = 0 := rfl
  skip
  go_enter Try.func12, Try.ntmps12
  go_wp2_with (first | (go_at_call 20; refine (HC.out _).mono ?_; rintro e w1 ⟨rfl, hb⟩; replace BX : w1.heap[w.heap.size]? = some (.cells #[vI 11, vI 1, vI rd, vI rn, vI rm, vI ra, vI imm, vI imm2, vI amount, vI shift, vI cond, vI sys, .bool false, .bool minus, .bool not, .bool link] 25) := (hb.block _ (Array.getElem?_eq_some_iff.1 BX).1).trans BX; replace HB : Hid (Below w.heap.size w w1) := HB.trans (hb.mono HB.size); clear hb HC; dsimp only; have c0 := cell_in BX 0 (v := vI 11) rfl; have c1 := cell_in BX 1 (v := vI 1) rfl; have c2 := cell_in BX 2 (v := vI rd) rfl; have c3 := cell_in BX 3 (v := vI rn) rfl; have c4 := cell_in BX 4 (v := vI rm) rfl; have c5 := cell_in BX 5 (v := vI ra) rfl; have c6 := cell_in BX 6 (v := vI imm) rfl; have c7 := cell_in BX 7 (v := vI imm2) rfl; have c8 := cell_in BX 8 (v := vI amount) rfl; have c9 := cell_in BX 9 (v := vI shift) rfl; have c10 := cell_in BX 10 (v := vI cond) rfl; have c11 := cell_in BX 11 (v := vI sys) rfl; have c12 := cell_in BX 12 (v := .bool false) rfl; have c13 := cell_in BX 13 (v := .bool minus) rfl; have c14 := cell_in BX 14 (v := .bool not) rfl; have c15 := cell_in BX 15 (v := .bool link) rfl) | ((with_reducible refine wpList_load_if rfl 25 _ rfl w.heap.size rfl 25 _ (0, 0) _ BX Try.underlying25 rfl (infoK _ rfl) ?_); simp only [Act.put, List.setIfInBounds_toArray, List.set_cons_succ, List.set_cons_zero]) | (go_at_call 21; refine (lowI_c _ _ (by decide) (by decide) _).mono ?_; rintro e w' ⟨rfl, rfl⟩; dsimp only))
  go_quiet ((first | (go_at_call 21; exact Calls.quiet_of_same (lowI_c _ _ (by decide) (by decide) _)) | (go_at_call 22; exact Calls.quiet_of_same (whenI_c _ _ _))))
  replace c0 : (w'.drewN nq).cell? ⟨w.heap.size, 0, none⟩ = some (vI 11) := c0
  replace c1 : (w'.drewN nq).cell? ⟨w.heap.size, 1, none⟩ = some (vI 1) := c1
  replace c2 : (w'.drewN nq).cell? ⟨w.heap.size, 2, none⟩ = some (vI rd) := c2
  replace c3 : (w'.drewN nq).cell? ⟨w.heap.size, 3, none⟩ = some (vI rn) := c3
  replace c4 : (w'.drewN nq).cell? ⟨w.heap.size, 4, none⟩ = some (vI rm) := c4
  replace c5 : (w'.drewN nq).cell? ⟨w.heap.size, 5, none⟩ = some (vI ra) := c5
  replace c6 : (w'.drewN nq).cell? ⟨w.heap.size, 6, none⟩ = some (vI imm) := c6
  replace c7 : (w'.drewN nq).cell? ⟨w.heap.size, 7, none⟩ = some (vI imm2) := c7
  replace c8 : (w'.drewN nq).cell? ⟨w.heap.size, 8, none⟩ = some (vI amount) := c8
  replace c9 : (w'.drewN nq).cell? ⟨w.heap.size, 9, none⟩ = some (vI shift) := c9
  replace c10 : (w'.drewN nq).cell? ⟨w.heap.size, 10, none⟩ = some (vI cond) := c10
  replace c11 : (w'.drewN nq).cell? ⟨w.heap.size, 11, none⟩ = some (vI sys) := c11
  replace c12 : (w'.drewN nq).cell? ⟨w.heap.size, 12, none⟩ = some (.bool false) := c12
  replace c13 : (w'.drewN nq).cell? ⟨w.heap.size, 13, none⟩ = some (.bool minus) := c13
  replace c14 : (w'.drewN nq).cell? ⟨w.heap.size, 14, none⟩ = some (.bool not) := c14
  replace c15 : (w'.drewN nq).cell? ⟨w.heap.size, 15, none⟩ = some (.bool link) := c15
  replace HB : Hid (Below w.heap.size w (w'.drewN nq)) := below_drewN HB.out nq
  replace BX : (w'.drewN nq).heap[w.heap.size]? = some (.cells #[vI 11, vI 1, vI rd, vI rn, vI rm, vI ra, vI imm, vI imm2, vI amount, vI shift, vI cond, vI sys, .bool false, .bool minus, .bool not, .bool link] 25) := BX
  generalize w'.drewN nq = w2 at *
  go_wp2_with (go_at_call 21; refine (lowI_c _ _ (by decide) (by decide) _).mono ?_; rintro e w' ⟨rfl, rfl⟩; dsimp only)
  go_ret2
  refine ⟨ret_tw ?_, HB.out⟩
  rw [hE.out]
  clear hE HB c0 c1 c2 c3 c4 c5 c6 c7 c8 c9 c10 c11 c12 c13 c14 c15
  replace m0 := m0.out
  replace m1 := m1.out
  replace m2 := m2.out
  replace m3 := m3.out
  replace m4 := m4.out
  omega
set_option maxRecDepth 4000 in
set_option maxHeartbeats 8000000 in
theorem en12 (sub rd rn rm ra imm imm2 amount shift cond sys : Int) (minus not link : Bool) (w : World) (hr : rightB ⟨12, sub, rd, rn, rm, ra, imm, imm2, amount, shift, cond, sys, false, minus, not, link⟩ = true) :
    Calls Try.prog 12 #[(⟨12, sub, rd, rn, rm, ra, imm, imm2, amount, shift, cond, sys, false, minus, not, link⟩ : Ins).val] w fun e w' => e = .returned (.tuple #[.int .u32 (encV ⟨12, sub, rd, rn, rm, ra, imm, imm2, amount, shift, cond, sys, false, minus, not, link⟩).1, .bool true]) ∧ Below w.heap.size w w' := by
  have R := rightF hr
  obtain ⟨x0, y0, z0⟩ := holds_of (lo := -134217728) (hi := 134217724) (st := 4) (n := imm) R.imm
  have t0 : -33554432 ≤ imm.tdiv 4 ∧ imm.tdiv 4 ≤ 33554431 := by obtain ⟨c, hc⟩ := of_tmod z0; rw [hc, Int.mul_tdiv_cancel _ (by decide)]; omega
  clear z0
  obtain rfl : sub = 0 := zero_of R.sub
  have hE := (wd11 0 rd rn rm ra imm imm2 amount shift cond sys false minus not link hr).1
  replace hE := show Hid _ from hE
  have HC := rright_c ⟨12, 0, rd, rn, rm, ra, imm, imm2, amount, shift, cond, sys, false, minus, not, link⟩
  rw [hr] at HC
  replace HC := show Hid _ from HC
  clear R hr
  have BX := heap_alloc_new w (.cells #[vI 12, vI 0, vI rd, vI rn, vI rm, vI ra, vI imm, vI imm2, vI amount, vI shift, vI cond, vI sys, .bool false, .bool minus, .bool not, .bool link] 25)
  have HB := below_alloc w (.cells #[vI 12, vI 0, vI rd, vI rn, vI rm, vI ra, vI imm, vI imm2, vI amount, vI shift, vI cond, vI sys, .bool false, .bool minus, .bool not, .bool link] 25)
  have b0 : 0 ≤ lowI rd 5 ∧ lowI rd 5 < 32 := lowI_in _ 5
  have m0 : Hid (lowI rd 5 = rd % 32) := lowI_mod rd 5 (by decide)
  have b1 : 0 ≤ lowI rn 5 ∧ lowI rn 5 < 32 := lowI_in _ 5
  have m1 : Hid (lowI rn 5 = rn % 32) := lowI_mod rn 5 (by decide)
  have b2 : 0 ≤ lowI rm 5 ∧ lowI rm 5 < 32 := lowI_in _ 5
  have m2 : Hid (lowI rm 5 = rm % 32) := lowI_mod rm 5 (by decide)
  have b3 : 0 ≤ lowI (imm.tdiv 4) 26 ∧ lowI (imm.tdiv 4) 26 < 67108864 := lowI_in _ 26
  have m3 : Hid (lowI (imm.tdiv 4) 26 = (imm.tdiv 4) % 67108864) := lowI_mod (imm.tdiv 4) 26 (by decide)
  have v0 := when_in minus (x := 1073741824) (by decide)
  have v1 := when_in link (x := 2147483648) (by decide)
  have e0 : whenI false 536870912 = 0 := rfl
  skip
  go_enter Try.func12, Try.ntmps12
  go_wp2_with (first | (go_at_call 20; refine (HC.out _).mono ?_; rintro e w1 ⟨rfl, hb⟩; replace BX : w1.heap[w.heap.size]? = some (.cells #[vI 12, vI 0, vI rd, vI rn, vI rm, vI ra, vI imm, vI imm2, vI amount, vI shift, vI cond, vI sys, .bool false, .bool minus, .bool not, .bool link] 25) := (hb.block _ (Array.getElem?_eq_some_iff.1 BX).1).trans BX; replace HB : Hid (Below w.heap.size w w1) := HB.trans (hb.mono HB.size); clear hb HC; dsimp only; have c0 := cell_in BX 0 (v := vI 12) rfl; have c1 := cell_in BX 1 (v := vI 0) rfl; have c2 := cell_in BX 2 (v := vI rd) rfl; have c3 := cell_in BX 3 (v := vI rn) rfl; have c4 := cell_in BX 4 (v := vI rm) rfl; have c5 := cell_in BX 5 (v := vI ra) rfl; have c6 := cell_in BX 6 (v := vI imm) rfl; have c7 := cell_in BX 7 (v := vI imm2) rfl; have c8 := cell_in BX 8 (v := vI amount) rfl; have c9 := cell_in BX 9 (v := vI shift) rfl; have c10 := cell_in BX 10 (v := vI cond) rfl; have c11 := cell_in BX 11 (v := vI sys) rfl; have c12 := cell_in BX 12 (v := .bool false) rfl; have c13 := cell_in BX 13 (v := .bool minus) rfl; have c14 := cell_in BX 14 (v := .bool not) rfl; have c15 := cell_in BX 15 (v := .bool link) rfl) | ((with_reducible refine wpList_load_if rfl 25 _ rfl w.heap.size rfl 25 _ (0, 0) _ BX Try.underlying25 rfl (infoK _ rfl) ?_); simp only [Act.put, List.setIfInBounds_toArray, List.set_cons_succ, List.set_cons_zero]) | (go_at_call 21; refine (lowI_c _ _ (by decide) (by decide) _).mono ?_; rintro e w' ⟨rfl, rfl⟩; dsimp only))
  go_quiet ((first | (go_at_call 21; exact Calls.quiet_of_same (lowI_c _ _ (by decide) (by decide) _)) | (go_at_call 22; exact Calls.quiet_of_same (whenI_c _ _ _))))
  replace c0 : (w'.drewN nq).cell? ⟨w.heap.size, 0, none⟩ = some (vI 12) := c0
  replace c1 : (w'.drewN nq).cell? ⟨w.heap.size, 1, none⟩ = some (vI 0) := c1
  replace c2 : (w'.drewN nq).cell? ⟨w.heap.size, 2, none⟩ = some (vI rd) := c2
  replace c3 : (w'.drewN nq).cell? ⟨w.heap.size, 3, none⟩ = some (vI rn) := c3
  replace c4 : (w'.drewN nq).cell? ⟨w.heap.size, 4, none⟩ = some (vI rm) := c4
  replace c5 : (w'.drewN nq).cell? ⟨w.heap.size, 5, none⟩ = some (vI ra) := c5
  replace c6 : (w'.drewN nq).cell? ⟨w.heap.size, 6, none⟩ = some (vI imm) := c6
  replace c7 : (w'.drewN nq).cell? ⟨w.heap.size, 7, none⟩ = some (vI imm2) := c7
  replace c8 : (w'.drewN nq).cell? ⟨w.heap.size, 8, none⟩ = some (vI amount) := c8
  replace c9 : (w'.drewN nq).cell? ⟨w.heap.size, 9, none⟩ = some (vI shift) := c9
  replace c10 : (w'.drewN nq).cell? ⟨w.heap.size, 10, none⟩ = some (vI cond) := c10
  replace c11 : (w'.drewN nq).cell? ⟨w.heap.size, 11, none⟩ = some (vI sys) := c11
  replace c12 : (w'.drewN nq).cell? ⟨w.heap.size, 12, none⟩ = some (.bool false) := c12
  replace c13 : (w'.drewN nq).cell? ⟨w.heap.size, 13, none⟩ = some (.bool minus) := c13
  replace c14 : (w'.drewN nq).cell? ⟨w.heap.size, 14, none⟩ = some (.bool not) := c14
  replace c15 : (w'.drewN nq).cell? ⟨w.heap.size, 15, none⟩ = some (.bool link) := c15
  replace HB : Hid (Below w.heap.size w (w'.drewN nq)) := below_drewN HB.out nq
  replace BX : (w'.drewN nq).heap[w.heap.size]? = some (.cells #[vI 12, vI 0, vI rd, vI rn, vI rm, vI ra, vI imm, vI imm2, vI amount, vI shift, vI cond, vI sys, .bool false, .bool minus, .bool not, .bool link] 25) := BX
  generalize w'.drewN nq = w2 at *
  clear BX
  go_wp2_with fail
  go_quiet ((first | (go_at_call 21; exact Calls.quiet_of_same (lowI_c _ _ (by decide) (by decide) _)) | (go_at_call 22; exact Calls.quiet_of_same (whenI_c _ _ _))))
  go_wp2
  go_ret2
  refine ⟨ret_tw ?_, below_drewN HB.out _⟩
  rw [hE.out]
  clear hE HB c0 c1 c2 c3 c4 c5 c6 c7 c8 c9 c10 c11 c12 c13 c14 c15
  replace m0 := m0.out
  replace m1 := m1.out
  replace m2 := m2.out
  replace m3 := m3.out
  omega
set_option maxRecDepth 4000 in
set_option maxHeartbeats 8000000 in
theorem en13 (sub rd rn rm ra imm imm2 amount shift cond sys : Int) (minus not link : Bool) (w : World) (hr : rightB ⟨13, sub, rd, rn, rm, ra, imm, imm2, amount, shift, cond, sys, false, minus, not, link⟩ = true) :
    Calls Try.prog 12 #[(⟨13, sub, rd, rn, rm, ra, imm, imm2, amount, shift, cond, sys, false, minus, not, link⟩ : Ins).val] w fun e w' => e = .returned (.tuple #[.int .u32 (encV ⟨13, sub, rd, rn, rm, ra, imm, imm2, amount, shift, cond, sys, false, minus, not, link⟩).1, .bool true]) ∧ Below w.heap.size w w' := by
  have R := rightF hr
  obtain ⟨x0, y0, z0⟩ := holds_of (lo := -1048576) (hi := 1048572) (st := 4) (n := imm) R.imm
  have t0 : -262144 ≤ imm.tdiv 4 ∧ imm.tdiv 4 ≤ 262143 := by obtain ⟨c, hc⟩ := of_tmod z0; rw [hc, Int.mul_tdiv_cancel _ (by decide)]; omega
  clear z0
  obtain ⟨x1, y1, z1⟩ := holds_of (lo := 0) (hi := 15) (st := 1) (n := cond) R.cond
  clear z1
  obtain rfl : sub = 0 := zero_of R.sub
  have hE := (wd12 0 rd rn rm ra imm imm2 amount shift cond sys false minus not link hr).1
  replace hE := show Hid _ from hE
  have HC := rright_c ⟨13, 0, rd, rn, rm, ra, imm, imm2, amount, shift, cond, sys, false, minus, not, link⟩
  rw [hr] at HC
  replace HC := show Hid _ from HC
  clear R hr
  have BX := heap_alloc_new w (.cells #[vI 13, vI 0, vI rd, vI rn, vI rm, vI ra, vI imm, vI imm2, vI amount, vI shift, vI cond, vI sys, .bool false, .bool minus, .bool not, .bool link] 25)
  have HB := below_alloc w (.cells #[vI 13, vI 0, vI rd, vI rn, vI rm, vI ra, vI imm, vI imm2, vI amount, vI shift, vI cond, vI sys, .bool false, .bool minus, .bool not, .bool link] 25)
  have b0 : 0 ≤ lowI rd 5 ∧ lowI rd 5 < 32 := lowI_in _ 5
  have m0 : Hid (lowI rd 5 = rd % 32) := lowI_mod rd 5 (by decide)
  have b1 : 0 ≤ lowI rn 5 ∧ lowI rn 5 < 32 := lowI_in _ 5
  have m1 : Hid (lowI rn 5 = rn % 32) := lowI_mod rn 5 (by decide)
  have b2 : 0 ≤ lowI rm 5 ∧ lowI rm 5 < 32 := lowI_in _ 5
  have m2 : Hid (lowI rm 5 = rm % 32) := lowI_mod rm 5 (by decide)
  have b3 : 0 ≤ lowI (imm.tdiv 4) 19 ∧ lowI (imm.tdiv 4) 19 < 524288 := lowI_in _ 19
  have m3 : Hid (lowI (imm.tdiv 4) 19 = (imm.tdiv 4) % 524288) := lowI_mod (imm.tdiv 4) 19 (by decide)
  have b4 : 0 ≤ lowI cond 4 ∧ lowI cond 4 < 16 := lowI_in _ 4
  have m4 : Hid (lowI cond 4 = cond % 16) := lowI_mod cond 4 (by decide)
  have v0 := when_in minus (x := 1073741824) (by decide)
  have e0 : whenI false 536870912 = 0 := rfl
  skip
  go_enter Try.func12, Try.ntmps12
  go_wp2_with (first | (go_at_call 20; refine (HC.out _).mono ?_; rintro e w1 ⟨rfl, hb⟩; replace BX : w1.heap[w.heap.size]? = some (.cells #[vI 13, vI 0, vI rd, vI rn, vI rm, vI ra, vI imm, vI imm2, vI amount, vI shift, vI cond, vI sys, .bool false, .bool minus, .bool not, .bool link] 25) := (hb.block _ (Array.getElem?_eq_some_iff.1 BX).1).trans BX; replace HB : Hid (Below w.heap.size w w1) := HB.trans (hb.mono HB.size); clear hb HC; dsimp only; have c0 := cell_in BX 0 (v := vI 13) rfl; have c1 := cell_in BX 1 (v := vI 0) rfl; have c2 := cell_in BX 2 (v := vI rd) rfl; have c3 := cell_in BX 3 (v := vI rn) rfl; have c4 := cell_in BX 4 (v := vI rm) rfl; have c5 := cell_in BX 5 (v := vI ra) rfl; have c6 := cell_in BX 6 (v := vI imm) rfl; have c7 := cell_in BX 7 (v := vI imm2) rfl; have c8 := cell_in BX 8 (v := vI amount) rfl; have c9 := cell_in BX 9 (v := vI shift) rfl; have c10 := cell_in BX 10 (v := vI cond) rfl; have c11 := cell_in BX 11 (v := vI sys) rfl; have c12 := cell_in BX 12 (v := .bool false) rfl; have c13 := cell_in BX 13 (v := .bool minus) rfl; have c14 := cell_in BX 14 (v := .bool not) rfl; have c15 := cell_in BX 15 (v := .bool link) rfl) | ((with_reducible refine wpList_load_if rfl 25 _ rfl w.heap.size rfl 25 _ (0, 0) _ BX Try.underlying25 rfl (infoK _ rfl) ?_); simp only [Act.put, List.setIfInBounds_toArray, List.set_cons_succ, List.set_cons_zero]) | (go_at_call 21; refine (lowI_c _ _ (by decide) (by decide) _).mono ?_; rintro e w' ⟨rfl, rfl⟩; dsimp only))
  go_quiet ((first | (go_at_call 21; exact Calls.quiet_of_same (lowI_c _ _ (by decide) (by decide) _)) | (go_at_call 22; exact Calls.quiet_of_same (whenI_c _ _ _))))
  replace c0 : (w'.drewN nq).cell? ⟨w.heap.size, 0, none⟩ = some (vI 13) := c0
  replace c1 : (w'.drewN nq).cell? ⟨w.heap.size, 1, none⟩ = some (vI 0) := c1
  replace c2 : (w'.drewN nq).cell? ⟨w.heap.size, 2, none⟩ = some (vI rd) := c2
  replace c3 : (w'.drewN nq).cell? ⟨w.heap.size, 3, none⟩ = some (vI rn) := c3
  replace c4 : (w'.drewN nq).cell? ⟨w.heap.size, 4, none⟩ = some (vI rm) := c4
  replace c5 : (w'.drewN nq).cell? ⟨w.heap.size, 5, none⟩ = some (vI ra) := c5
  replace c6 : (w'.drewN nq).cell? ⟨w.heap.size, 6, none⟩ = some (vI imm) := c6
  replace c7 : (w'.drewN nq).cell? ⟨w.heap.size, 7, none⟩ = some (vI imm2) := c7
  replace c8 : (w'.drewN nq).cell? ⟨w.heap.size, 8, none⟩ = some (vI amount) := c8
  replace c9 : (w'.drewN nq).cell? ⟨w.heap.size, 9, none⟩ = some (vI shift) := c9
  replace c10 : (w'.drewN nq).cell? ⟨w.heap.size, 10, none⟩ = some (vI cond) := c10
  replace c11 : (w'.drewN nq).cell? ⟨w.heap.size, 11, none⟩ = some (vI sys) := c11
  replace c12 : (w'.drewN nq).cell? ⟨w.heap.size, 12, none⟩ = some (.bool false) := c12
  replace c13 : (w'.drewN nq).cell? ⟨w.heap.size, 13, none⟩ = some (.bool minus) := c13
  replace c14 : (w'.drewN nq).cell? ⟨w.heap.size, 14, none⟩ = some (.bool not) := c14
  replace c15 : (w'.drewN nq).cell? ⟨w.heap.size, 15, none⟩ = some (.bool link) := c15
  replace HB : Hid (Below w.heap.size w (w'.drewN nq)) := below_drewN HB.out nq
  replace BX : (w'.drewN nq).heap[w.heap.size]? = some (.cells #[vI 13, vI 0, vI rd, vI rn, vI rm, vI ra, vI imm, vI imm2, vI amount, vI shift, vI cond, vI sys, .bool false, .bool minus, .bool not, .bool link] 25) := BX
  generalize w'.drewN nq = w2 at *
  clear BX
  go_wp2_with fail
  go_quiet ((first | (go_at_call 21; exact Calls.quiet_of_same (lowI_c _ _ (by decide) (by decide) _)) | (go_at_call 22; exact Calls.quiet_of_same (whenI_c _ _ _))))
  go_wp2
  go_ret2
  refine ⟨ret_tw ?_, below_drewN HB.out _⟩
  rw [hE.out]
  clear hE HB c0 c1 c2 c3 c4 c5 c6 c7 c8 c9 c10 c11 c12 c13 c14 c15
  replace m0 := m0.out
  replace m1 := m1.out
  replace m2 := m2.out
  replace m3 := m3.out
  replace m4 := m4.out
  omega
set_option maxRecDepth 4000 in
set_option maxHeartbeats 8000000 in
theorem en14 (sub rd rn rm ra imm imm2 amount shift cond sys : Int) (minus not link : Bool) (w : World) (hr : rightB ⟨14, sub, rd, rn, rm, ra, imm, imm2, amount, shift, cond, sys, false, minus, not, link⟩ = true) :
    Calls Try.prog 12 #[(⟨14, sub, rd, rn, rm, ra, imm, imm2, amount, shift, cond, sys, false, minus, not, link⟩ : Ins).val] w fun e w' => e = .returned (.tuple #[.int .u32 (encV ⟨14, sub, rd, rn, rm, ra, imm, imm2, amount, shift, cond, sys, false, minus, not, link⟩).1, .bool true]) ∧ Below w.heap.size w w' := by
  have R := rightF hr
  obtain ⟨x0, y0, z0⟩ := holds_of (lo := -1048576) (hi := 1048572) (st := 4) (n := imm) R.imm
  have t0 : -262144 ≤ imm.tdiv 4 ∧ imm.tdiv 4 ≤ 262143 := by obtain ⟨c, hc⟩ := of_tmod z0; rw [hc, Int.mul_tdiv_cancel _ (by decide)]; omega
  clear z0
  obtain rfl : sub = 0 := zero_of R.sub
  have hE := (wd13 0 rd rn rm ra imm imm2 amount shift cond sys false minus not link hr).1
  replace hE := show Hid _ from hE
  have HC := rright_c ⟨14, 0, rd, rn, rm, ra, imm, imm2, amount, shift, cond, sys, false, minus, not, link⟩
  rw [hr] at HC
  replace HC := show Hid _ from HC
  clear R hr
  have BX := heap_alloc_new w (.cells #[vI 14, vI 0, vI rd, vI rn, vI rm, vI ra, vI imm, vI imm2, vI amount, vI shift, vI cond, vI sys, .bool false, .bool minus, .bool not, .bool link] 25)
  have HB := below_alloc w (.cells #[vI 14, vI 0, vI rd, vI rn, vI rm, vI ra, vI imm, vI imm2, vI amount, vI shift, vI cond, vI sys, .bool false, .bool minus, .bool not, .bool link] 25)
  have b0 : 0 ≤ lowI rd 5 ∧ lowI rd 5 < 32 := lowI_in _ 5
  have m0 : Hid (lowI rd 5 = rd % 32) := lowI_mod rd 5 (by decide)
  have b1 : 0 ≤ lowI rn 5 ∧ lowI rn 5 < 32 := lowI_in _ 5
  have m1 : Hid (lowI rn 5 = rn % 32) := lowI_mod rn 5 (by decide)
  have b2 : 0 ≤ lowI rm 5 ∧ lowI rm 5 < 32 := lowI_in _ 5
  have m2 : Hid (lowI rm 5 = rm % 32) := lowI_mod rm 5 (by decide)
  have b3 : 0 ≤ lowI (imm.tdiv 4) 19 ∧ lowI (imm.tdiv 4) 19 < 524288 := lowI_in _ 19
  have m3 : Hid (lowI (imm.tdiv 4) 19 = (imm.tdiv 4) % 524288) := lowI_mod (imm.tdiv 4) 19 (by decide)
  have v0 := when_in minus (x := 1073741824) (by decide)
  have v1 := when_in not (x := 16777216) (by decide)
  have e0 : whenI false 536870912 = 0 := rfl
  skip
  go_enter Try.func12, Try.ntmps12
  go_wp2_with (first | (go_at_call 20; refine (HC.out _).mono ?_; rintro e w1 ⟨rfl, hb⟩; replace BX : w1.heap[w.heap.size]? = some (.cells #[vI 14, vI 0, vI rd, vI rn, vI rm, vI ra, vI imm, vI imm2, vI amount, vI shift, vI cond, vI sys, .bool false, .bool minus, .bool not, .bool link] 25) := (hb.block _ (Array.getElem?_eq_some_iff.1 BX).1).trans BX; replace HB : Hid (Below w.heap.size w w1) := HB.trans (hb.mono HB.size); clear hb HC; dsimp only; have c0 := cell_in BX 0 (v := vI 14) rfl; have c1 := cell_in BX 1 (v := vI 0) rfl; have c2 := cell_in BX 2 (v := vI rd) rfl; have c3 := cell_in BX 3 (v := vI rn) rfl; have c4 := cell_in BX 4 (v := vI rm) rfl; have c5 := cell_in BX 5 (v := vI ra) rfl; have c6 := cell_in BX 6 (v := vI imm) rfl; have c7 := cell_in BX 7 (v := vI imm2) rfl; have c8 := cell_in BX 8 (v := vI amount) rfl; have c9 := cell_in BX 9 (v := vI shift) rfl; have c10 := cell_in BX 10 (v := vI cond) rfl; have c11 := cell_in BX 11 (v := vI sys) rfl; have c12 := cell_in BX 12 (v := .bool false) rfl; have c13 := cell_in BX 13 (v := .bool minus) rfl; have c14 := cell_in BX 14 (v := .bool not) rfl; have c15 := cell_in BX 15 (v := .bool link) rfl) | ((with_reducible refine wpList_load_if rfl 25 _ rfl w.heap.size rfl 25 _ (0, 0) _ BX Try.underlying25 rfl (infoK _ rfl) ?_); simp only [Act.put, List.setIfInBounds_toArray, List.set_cons_succ, List.set_cons_zero]) | (go_at_call 21; refine (lowI_c _ _ (by decide) (by decide) _).mono ?_; rintro e w' ⟨rfl, rfl⟩; dsimp only))
  go_quiet ((first | (go_at_call 21; exact Calls.quiet_of_same (lowI_c _ _ (by decide) (by decide) _)) | (go_at_call 22; exact Calls.quiet_of_same (whenI_c _ _ _))))
  replace c0 : (w'.drewN nq).cell? ⟨w.heap.size, 0, none⟩ = some (vI 14) := c0
  replace c1 : (w'.drewN nq).cell? ⟨w.heap.size, 1, none⟩ = some (vI 0) := c1
  replace c2 : (w'.drewN nq).cell? ⟨w.heap.size, 2, none⟩ = some (vI rd) := c2
  replace c3 : (w'.drewN nq).cell? ⟨w.heap.size, 3, none⟩ = some (vI rn) := c3
  replace c4 : (w'.drewN nq).cell? ⟨w.heap.size, 4, none⟩ = some (vI rm) := c4
  replace c5 : (w'.drewN nq).cell? ⟨w.heap.size, 5, none⟩ = some (vI ra) := c5
  replace c6 : (w'.drewN nq).cell? ⟨w.heap.size, 6, none⟩ = some (vI imm) := c6
  replace c7 : (w'.drewN nq).cell? ⟨w.heap.size, 7, none⟩ = some (vI imm2) := c7
  replace c8 : (w'.drewN nq).cell? ⟨w.heap.size, 8, none⟩ = some (vI amount) := c8
  replace c9 : (w'.drewN nq).cell? ⟨w.heap.size, 9, none⟩ = some (vI shift) := c9
  replace c10 : (w'.drewN nq).cell? ⟨w.heap.size, 10, none⟩ = some (vI cond) := c10
  replace c11 : (w'.drewN nq).cell? ⟨w.heap.size, 11, none⟩ = some (vI sys) := c11
  replace c12 : (w'.drewN nq).cell? ⟨w.heap.size, 12, none⟩ = some (.bool false) := c12
  replace c13 : (w'.drewN nq).cell? ⟨w.heap.size, 13, none⟩ = some (.bool minus) := c13
  replace c14 : (w'.drewN nq).cell? ⟨w.heap.size, 14, none⟩ = some (.bool not) := c14
  replace c15 : (w'.drewN nq).cell? ⟨w.heap.size, 15, none⟩ = some (.bool link) := c15
  replace HB : Hid (Below w.heap.size w (w'.drewN nq)) := below_drewN HB.out nq
  replace BX : (w'.drewN nq).heap[w.heap.size]? = some (.cells #[vI 14, vI 0, vI rd, vI rn, vI rm, vI ra, vI imm, vI imm2, vI amount, vI shift, vI cond, vI sys, .bool false, .bool minus, .bool not, .bool link] 25) := BX
  generalize w'.drewN nq = w2 at *
  clear BX
  go_wp2_with fail
  go_quiet ((first | (go_at_call 21; exact Calls.quiet_of_same (lowI_c _ _ (by decide) (by decide) _)) | (go_at_call 22; exact Calls.quiet_of_same (whenI_c _ _ _))))
  go_wp2
  go_ret2
  refine ⟨ret_tw ?_, below_drewN HB.out _⟩
  rw [hE.out]
  clear hE HB c0 c1 c2 c3 c4 c5 c6 c7 c8 c9 c10 c11 c12 c13 c14 c15
  replace m0 := m0.out
  replace m1 := m1.out
  replace m2 := m2.out
  replace m3 := m3.out
  omega
set_option maxRecDepth 4000 in
set_option maxHeartbeats 8000000 in
theorem en15 (sub rd rn rm ra imm imm2 amount shift cond sys : Int) (minus not link : Bool) (w : World) (hr : rightB ⟨15, sub, rd, rn, rm, ra, imm, imm2, amount, shift, cond, sys, false, minus, not, link⟩ = true) :
    Calls Try.prog 12 #[(⟨15, sub, rd, rn, rm, ra, imm, imm2, amount, shift, cond, sys, false, minus, not, link⟩ : Ins).val] w fun e w' => e = .returned (.tuple #[.int .u32 (encV ⟨15, sub, rd, rn, rm, ra, imm, imm2, amount, shift, cond, sys, false, minus, not, link⟩).1, .bool true]) ∧ Below w.heap.size w w' := by
  have R := rightF hr
  obtain ⟨x0, y0, z0⟩ := holds_of (lo := -32768) (hi := 32764) (st := 4) (n := imm) R.imm
  have t0 : -8192 ≤ imm.tdiv 4 ∧ imm.tdiv 4 ≤ 8191 := by obtain ⟨c, hc⟩ := of_tmod z0; rw [hc, Int.mul_tdiv_cancel _ (by decide)]; omega
  clear z0
  obtain ⟨x1, y1, z1⟩ := holds_of (lo := 0) (hi := 63) (st := 1) (n := amount) R.amount
  clear z1
  obtain rfl : sub = 0 := zero_of R.sub
  have hE := (wd14 0 rd rn rm ra imm imm2 amount shift cond sys false minus not link hr).1
  have nn0 : amount.tdiv 32 = amount / 32 := Int.tdiv_eq_ediv_of_nonneg (by omega)
  have nn1 : amount.tmod 32 = amount % 32 := Int.tmod_eq_emod_of_nonneg (by omega)
  rw [nn0] at hE
  rw [nn1] at hE
  clear nn0 nn1
  replace hE := show Hid _ from hE
  have HC := rright_c ⟨15, 0, rd, rn, rm, ra, imm, imm2, amount, shift, cond, sys, false, minus, not, link⟩
  rw [hr] at HC
  replace HC := show Hid _ from HC
  clear R hr
  have BX := heap_alloc_new w (.cells #[vI 15, vI 0, vI rd, vI rn, vI rm, vI ra, vI imm, vI imm2, vI amount, vI shift, vI cond, vI sys, .bool false, .bool minus, .bool not, .bool link] 25)
  have HB := below_alloc w (.cells #[vI 15, vI 0, vI rd, vI rn, vI rm, vI ra, vI imm, vI imm2, vI amount, vI shift, vI cond, vI sys, .bool false, .bool minus, .bool not, .bool link] 25)
  have b0 : 0 ≤ lowI rd 5 ∧ lowI rd 5 < 32 := lowI_in _ 5
  have m0 : Hid (lowI rd 5 = rd % 32) := lowI_mod rd 5 (by decide)
  have b1 : 0 ≤ lowI rn 5 ∧ lowI rn 5 < 32 := lowI_in _ 5
  have m1 : Hid (lowI rn 5 = rn % 32) := lowI_mod rn 5 (by decide)
  have b2 : 0 ≤ lowI rm 5 ∧ lowI rm 5 < 32 := lowI_in _ 5
  have m2 : Hid (lowI rm 5 = rm % 32) := lowI_mod rm 5 (by decide)
  have b3 : 0 ≤ lowI (imm.tdiv 4) 14 ∧ lowI (imm.tdiv 4) 14 < 16384 := lowI_in _ 14
  have m3 : Hid (lowI (imm.tdiv 4) 14 = (imm.tdiv 4) % 16384) := lowI_mod (imm.tdiv 4) 14 (by decide)
  have v0 := when_in minus (x := 1073741824) (by decide)
  have v1 := when_in not (x := 16777216) (by decide)
  have e0 : whenI false 536870912 = 0 := rfl
  skip
  go_enter Try.func12, Try.ntmps12
  go_wp2_with (first | (go_at_call 20; refine (HC.out _).mono ?_; rintro e w1 ⟨rfl, hb⟩; replace BX : w1.heap[w.heap.size]? = some (.cells #[vI 15, vI 0, vI rd, vI rn, vI rm, vI ra, vI imm, vI imm2, vI amount, vI shift, vI cond, vI sys, .bool false, .bool minus, .bool not, .bool link] 25) := (hb.block _ (Array.getElem?_eq_some_iff.1 BX).1).trans BX; replace HB : Hid (Below w.heap.size w w1) := HB.trans (hb.mono HB.size); clear hb HC; dsimp only; have c0 := cell_in BX 0 (v := vI 15) rfl; have c1 := cell_in BX 1 (v := vI 0) rfl; have c2 := cell_in BX 2 (v := vI rd) rfl; have c3 := cell_in BX 3 (v := vI rn) rfl; have c4 := cell_in BX 4 (v := vI rm) rfl; have c5 := cell_in BX 5 (v := vI ra) rfl; have c6 := cell_in BX 6 (v := vI imm) rfl; have c7 := cell_in BX 7 (v := vI imm2) rfl; have c8 := cell_in BX 8 (v := vI amount) rfl; have c9 := cell_in BX 9 (v := vI shift) rfl; have c10 := cell_in BX 10 (v := vI cond) rfl; have c11 := cell_in BX 11 (v := vI sys) rfl; have c12 := cell_in BX 12 (v := .bool false) rfl; have c13 := cell_in BX 13 (v := .bool minus) rfl; have c14 := cell_in BX 14 (v := .bool not) rfl; have c15 := cell_in BX 15 (v := .bool link) rfl) | ((with_reducible refine wpList_load_if rfl 25 _ rfl w.heap.size rfl 25 _ (0, 0) _ BX Try.underlying25 rfl (infoK _ rfl) ?_); simp only [Act.put, List.setIfInBounds_toArray, List.set_cons_succ, List.set_cons_zero]) | (go_at_call 21; refine (lowI_c _ _ (by decide) (by decide) _).mono ?_; rintro e w' ⟨rfl, rfl⟩; dsimp only))
  go_quiet ((first | (go_at_call 21; exact Calls.quiet_of_same (lowI_c _ _ (by decide) (by decide) _)) | (go_at_call 22; exact Calls.quiet_of_same (whenI_c _ _ _))))
  replace c0 : (w'.drewN nq).cell? ⟨w.heap.size, 0, none⟩ = some (vI 15) := c0
  replace c1 : (w'.drewN nq).cell? ⟨w.heap.size, 1, none⟩ = some (vI 0) := c1
  replace c2 : (w'.drewN nq).cell? ⟨w.heap.size, 2, none⟩ = some (vI rd) := c2
  replace c3 : (w'.drewN nq).cell? ⟨w.heap.size, 3, none⟩ = some (vI rn) := c3
  replace c4 : (w'.drewN nq).cell? ⟨w.heap.size, 4, none⟩ = some (vI rm) := c4
  replace c5 : (w'.drewN nq).cell? ⟨w.heap.size, 5, none⟩ = some (vI ra) := c5
  replace c6 : (w'.drewN nq).cell? ⟨w.heap.size, 6, none⟩ = some (vI imm) := c6
  replace c7 : (w'.drewN nq).cell? ⟨w.heap.size, 7, none⟩ = some (vI imm2) := c7
  replace c8 : (w'.drewN nq).cell? ⟨w.heap.size, 8, none⟩ = some (vI amount) := c8
  replace c9 : (w'.drewN nq).cell? ⟨w.heap.size, 9, none⟩ = some (vI shift) := c9
  replace c10 : (w'.drewN nq).cell? ⟨w.heap.size, 10, none⟩ = some (vI cond) := c10
  replace c11 : (w'.drewN nq).cell? ⟨w.heap.size, 11, none⟩ = some (vI sys) := c11
  replace c12 : (w'.drewN nq).cell? ⟨w.heap.size, 12, none⟩ = some (.bool false) := c12
  replace c13 : (w'.drewN nq).cell? ⟨w.heap.size, 13, none⟩ = some (.bool minus) := c13
  replace c14 : (w'.drewN nq).cell? ⟨w.heap.size, 14, none⟩ = some (.bool not) := c14
  replace c15 : (w'.drewN nq).cell? ⟨w.heap.size, 15, none⟩ = some (.bool link) := c15
  replace HB : Hid (Below w.heap.size w (w'.drewN nq)) := below_drewN HB.out nq
  replace BX : (w'.drewN nq).heap[w.heap.size]? = some (.cells #[vI 15, vI 0, vI rd, vI rn, vI rm, vI ra, vI imm, vI imm2, vI amount, vI shift, vI cond, vI sys, .bool false, .bool minus, .bool not, .bool link] 25) := BX
  generalize w'.drewN nq = w2 at *
  clear BX
  go_wp2_with fail
  go_quiet ((first | (go_at_call 21; exact Calls.quiet_of_same (lowI_c _ _ (by decide) (by decide) _)) | (go_at_call 22; exact Calls.quiet_of_same (whenI_c _ _ _))))
  go_wp2
  go_ret2
  refine ⟨ret_tw ?_, below_drewN HB.out _⟩
  rw [hE.out]
  clear hE HB c0 c1 c2 c3 c4 c5 c6 c7 c8 c9 c10 c11 c12 c13 c14 c15
  replace m0 := m0.out
  replace m1 := m1.out
  replace m2 := m2.out
  replace m3 := m3.out
  omega
set_option maxRecDepth 4000 in
set_option maxHeartbeats 8000000 in
theorem en16 (sub rd rn rm ra imm imm2 amount shift cond sys : Int) (minus not link : Bool) (w : World) (hr : rightB ⟨16, sub, rd, rn, rm, ra, imm, imm2, amount, shift, cond, sys, false, minus, not, link⟩ = true) :
    Calls Try.prog 12 #[(⟨16, sub, rd, rn, rm, ra, imm, imm2, amount, shift, cond, sys, false, minus, not, link⟩ : Ins).val] w fun e w' => e = .returned (.tuple #[.int .u32 (encV ⟨16, sub, rd, rn, rm, ra, imm, imm2, amount, shift, cond, sys, false, minus, not, link⟩).1, .bool true]) ∧ Below w.heap.size w w' := by
  have R := rightF hr
  obtain ⟨x0, y0, z0⟩ := holds_of (lo := 0) (hi := 2) (st := 1) (n := sub) R.sub
  clear z0
  have hE := (wd15 sub rd rn rm ra imm imm2 amount shift cond sys false minus not link hr).1
  replace hE := show Hid _ from hE
  have HC := rright_c ⟨16, sub, rd, rn, rm, ra, imm, imm2, amount, shift, cond, sys, false, minus, not, link⟩
  rw [hr] at HC
  replace HC := show Hid _ from HC
  clear R hr
  have BX := heap_alloc_new w (.cells #[vI 16, vI sub, vI rd, vI rn, vI rm, vI ra, vI imm, vI imm2, vI amount, vI shift, vI cond, vI sys, .bool false, .bool minus, .bool not, .bool link] 25)
  have HB := below_alloc w (.cells #[vI 16, vI sub, vI rd, vI rn, vI rm, vI ra, vI imm, vI imm2, vI amount, vI shift, vI cond, vI sys, .bool false, .bool minus, .bool not, .bool link] 25)
  have b0 : 0 ≤ lowI rd 5 ∧ lowI rd 5 < 32 := lowI_in _ 5
  have m0 : Hid (lowI rd 5 = rd % 32) := lowI_mod rd 5 (by decide)
  have b1 : 0 ≤ lowI rn 5 ∧ lowI rn 5 < 32 := lowI_in _ 5
  have m1 : Hid (lowI rn 5 = rn % 32) := lowI_mod rn 5 (by decide)
  have b2 : 0 ≤ lowI rm 5 ∧ lowI rm 5 < 32 := lowI_in _ 5
  have m2 : Hid (lowI rm 5 = rm % 32) := lowI_mod rm 5 (by decide)
  have v0 := when_in minus (x := 1073741824) (by decide)
  have e0 : whenI false 536870912 = 0 := rfl
  skip
  go_enter Try.func12, Try.ntmps12
  go_wp2_with (first | (go_at_call 20; refine (HC.out _).mono ?_; rintro e w1 ⟨rfl, hb⟩; replace BX : w1.heap[w.heap.size]? = some (.cells #[vI 16, vI sub, vI rd, vI rn, vI rm, vI ra, vI imm, vI imm2, vI amount, vI shift, vI cond, vI sys, .bool false, .bool minus, .bool not, .bool link] 25) := (hb.block _ (Array.getElem?_eq_some_iff.1 BX).1).trans BX; replace HB : Hid (Below w.heap.size w w1) := HB.trans (hb.mono HB.size); clear hb HC; dsimp only; have c0 := cell_in BX 0 (v := vI 16) rfl; have c1 := cell_in BX 1 (v := vI sub) rfl; have c2 := cell_in BX 2 (v := vI rd) rfl; have c3 := cell_in BX 3 (v := vI rn) rfl; have c4 := cell_in BX 4 (v := vI rm) rfl; have c5 := cell_in BX 5 (v := vI ra) rfl; have c6 := cell_in BX 6 (v := vI imm) rfl; have c7 := cell_in BX 7 (v := vI imm2) rfl; have c8 := cell_in BX 8 (v := vI amount) rfl; have c9 := cell_in BX 9 (v := vI shift) rfl; have c10 := cell_in BX 10 (v := vI cond) rfl; have c11 := cell_in BX 11 (v := vI sys) rfl; have c12 := cell_in BX 12 (v := .bool false) rfl; have c13 := cell_in BX 13 (v := .bool minus) rfl; have c14 := cell_in BX 14 (v := .bool not) rfl; have c15 := cell_in BX 15 (v := .bool link) rfl) | ((with_reducible refine wpList_load_if rfl 25 _ rfl w.heap.size rfl 25 _ (0, 0) _ BX Try.underlying25 rfl (infoK _ rfl) ?_); simp only [Act.put, List.setIfInBounds_toArray, List.set_cons_succ, List.set_cons_zero]) | (go_at_call 21; refine (lowI_c _ _ (by decide) (by decide) _).mono ?_; rintro e w' ⟨rfl, rfl⟩; dsimp only))
  go_quiet ((first | (go_at_call 21; exact Calls.quiet_of_same (lowI_c _ _ (by decide) (by decide) _)) | (go_at_call 22; exact Calls.quiet_of_same (whenI_c _ _ _))))
  replace c0 : (w'.drewN nq).cell? ⟨w.heap.size, 0, none⟩ = some (vI 16) := c0
  replace c1 : (w'.drewN nq).cell? ⟨w.heap.size, 1, none⟩ = some (vI sub) := c1
  replace c2 : (w'.drewN nq).cell? ⟨w.heap.size, 2, none⟩ = some (vI rd) := c2
  replace c3 : (w'.drewN nq).cell? ⟨w.heap.size, 3, none⟩ = some (vI rn) := c3
  replace c4 : (w'.drewN nq).cell? ⟨w.heap.size, 4, none⟩ = some (vI rm) := c4
  replace c5 : (w'.drewN nq).cell? ⟨w.heap.size, 5, none⟩ = some (vI ra) := c5
  replace c6 : (w'.drewN nq).cell? ⟨w.heap.size, 6, none⟩ = some (vI imm) := c6
  replace c7 : (w'.drewN nq).cell? ⟨w.heap.size, 7, none⟩ = some (vI imm2) := c7
  replace c8 : (w'.drewN nq).cell? ⟨w.heap.size, 8, none⟩ = some (vI amount) := c8
  replace c9 : (w'.drewN nq).cell? ⟨w.heap.size, 9, none⟩ = some (vI shift) := c9
  replace c10 : (w'.drewN nq).cell? ⟨w.heap.size, 10, none⟩ = some (vI cond) := c10
  replace c11 : (w'.drewN nq).cell? ⟨w.heap.size, 11, none⟩ = some (vI sys) := c11
  replace c12 : (w'.drewN nq).cell? ⟨w.heap.size, 12, none⟩ = some (.bool false) := c12
  replace c13 : (w'.drewN nq).cell? ⟨w.heap.size, 13, none⟩ = some (.bool minus) := c13
  replace c14 : (w'.drewN nq).cell? ⟨w.heap.size, 14, none⟩ = some (.bool not) := c14
  replace c15 : (w'.drewN nq).cell? ⟨w.heap.size, 15, none⟩ = some (.bool link) := c15
  replace HB : Hid (Below w.heap.size w (w'.drewN nq)) := below_drewN HB.out nq
  replace BX : (w'.drewN nq).heap[w.heap.size]? = some (.cells #[vI 16, vI sub, vI rd, vI rn, vI rm, vI ra, vI imm, vI imm2, vI amount, vI shift, vI cond, vI sys, .bool false, .bool minus, .bool not, .bool link] 25) := BX
  generalize w'.drewN nq = w2 at *
  go_wp2_with (go_at_call 21; refine (lowI_c _ _ (by decide) (by decide) _).mono ?_; rintro e w' ⟨rfl, rfl⟩; dsimp only)
  go_ret2
  refine ⟨ret_tw ?_, HB.out⟩
  rw [hE.out]
  clear hE HB c0 c1 c2 c3 c4 c5 c6 c7 c8 c9 c10 c11 c12 c13 c14 c15
  replace m0 := m0.out
  replace m1 := m1.out
  replace m2 := m2.out
  omega
end Go.Proofs.Ytcmilajlngnibaa
