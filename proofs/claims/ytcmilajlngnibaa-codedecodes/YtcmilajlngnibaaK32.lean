/- Encode of the document's own answer to chapter 3: contracts, an Op each. -/
import Derived.Test.YtcmilajlngnibaaK26
namespace Go.Proofs.Ytcmilajlngnibaa
open Go.RowKit Go.Rel
set_option linter.unusedVariables false
set_option linter.unusedSimpArgs false

set_option maxRecDepth 4000 in
set_option maxHeartbeats 8000000 in
theorem en31 (sub rd rn rm ra imm imm2 amount shift cond sys : Int) (minus not link : Bool) (w : World) (hr : rightB ⟨31, sub, rd, rn, rm, ra, imm, imm2, amount, shift, cond, sys, false, minus, not, link⟩ = true) :
    Calls Try.prog 12 #[(⟨31, sub, rd, rn, rm, ra, imm, imm2, amount, shift, cond, sys, false, minus, not, link⟩ : Ins).val] w fun e w' => e = .returned (.tuple #[.int .u32 (encV ⟨31, sub, rd, rn, rm, ra, imm, imm2, amount, shift, cond, sys, false, minus, not, link⟩).1, .bool true]) ∧ Below w.heap.size w w' := by
  have R := rightF hr
  obtain ⟨x0, y0⟩ : (0 : Int) ≤ sys ∧ sys ≤ 32767 := sys_in R.sys
  obtain rfl : sub = 0 := zero_of R.sub
  have hE := (wd32 0 rd rn rm ra imm imm2 amount shift cond sys false minus not link hr).1
  replace hE := show Hid _ from hE
  have HC := rright_c ⟨31, 0, rd, rn, rm, ra, imm, imm2, amount, shift, cond, sys, false, minus, not, link⟩
  rw [hr] at HC
  replace HC := show Hid _ from HC
  clear R hr
  have BX := heap_alloc_new w (.cells #[vI 31, vI 0, vI rd, vI rn, vI rm, vI ra, vI imm, vI imm2, vI amount, vI shift, vI cond, vI sys, .bool false, .bool minus, .bool not, .bool link] 25)
  have HB := below_alloc w (.cells #[vI 31, vI 0, vI rd, vI rn, vI rm, vI ra, vI imm, vI imm2, vI amount, vI shift, vI cond, vI sys, .bool false, .bool minus, .bool not, .bool link] 25)
  have b0 : 0 ≤ lowI rd 5 ∧ lowI rd 5 < 32 := lowI_in _ 5
  have m0 : Hid (lowI rd 5 = rd % 32) := lowI_mod rd 5 (by decide)
  have b1 : 0 ≤ lowI rn 5 ∧ lowI rn 5 < 32 := lowI_in _ 5
  have m1 : Hid (lowI rn 5 = rn % 32) := lowI_mod rn 5 (by decide)
  have b2 : 0 ≤ lowI rm 5 ∧ lowI rm 5 < 32 := lowI_in _ 5
  have m2 : Hid (lowI rm 5 = rm % 32) := lowI_mod rm 5 (by decide)
  have v0 := when_in minus (x := 1073741824) (by decide)
  have e0 : whenI false 536870912 = 0 := rfl
  skip
  go_enter Try.func12, Try.ntmps12
  go_wp2_with (first | (go_at_call 20; refine (HC.out _).mono ?_; rintro e w1 ⟨rfl, hb⟩; replace BX : w1.heap[w.heap.size]? = some (.cells #[vI 31, vI 0, vI rd, vI rn, vI rm, vI ra, vI imm, vI imm2, vI amount, vI shift, vI cond, vI sys, .bool false, .bool minus, .bool not, .bool link] 25) := (hb.block _ (Array.getElem?_eq_some_iff.1 BX).1).trans BX; replace HB : Hid (Below w.heap.size w w1) := HB.trans (hb.mono HB.size); clear hb HC; dsimp only; have c0 := cell_in BX 0 (v := vI 31) rfl; have c1 := cell_in BX 1 (v := vI 0) rfl; have c2 := cell_in BX 2 (v := vI rd) rfl; have c3 := cell_in BX 3 (v := vI rn) rfl; have c4 := cell_in BX 4 (v := vI rm) rfl; have c5 := cell_in BX 5 (v := vI ra) rfl; have c6 := cell_in BX 6 (v := vI imm) rfl; have c7 := cell_in BX 7 (v := vI imm2) rfl; have c8 := cell_in BX 8 (v := vI amount) rfl; have c9 := cell_in BX 9 (v := vI shift) rfl; have c10 := cell_in BX 10 (v := vI cond) rfl; have c11 := cell_in BX 11 (v := vI sys) rfl; have c12 := cell_in BX 12 (v := .bool false) rfl; have c13 := cell_in BX 13 (v := .bool minus) rfl; have c14 := cell_in BX 14 (v := .bool not) rfl; have c15 := cell_in BX 15 (v := .bool link) rfl) | ((with_reducible refine wpList_load_if rfl 25 _ rfl w.heap.size rfl 25 _ (0, 0) _ BX Try.underlying25 rfl (infoK _ rfl) ?_); simp only [Act.put, List.setIfInBounds_toArray, List.set_cons_succ, List.set_cons_zero]) | (go_at_call 21; refine (lowI_c _ _ (by decide) (by decide) _).mono ?_; rintro e w' ⟨rfl, rfl⟩; dsimp only))
  go_quiet ((first | (go_at_call 21; exact Calls.quiet_of_same (lowI_c _ _ (by decide) (by decide) _)) | (go_at_call 22; exact Calls.quiet_of_same (whenI_c _ _ _))))
  replace c0 : (w'.drewN nq).cell? ⟨w.heap.size, 0, none⟩ = some (vI 31) := c0
  replace c1 : (w'.drewN nq).cell? ⟨w.heap.size, 1, none⟩ = some (vI 0) := c1
  replace c2 : (w'.drewN nq).cell? ⟨w.heap.size, 2, none⟩ = some (vI rd) := c2
  replace c3 : (w'.drewN nq).cell? ⟨w.heap.size, 3, none⟩ = some (vI rn) := c3
  replace c4 : (w'.drewN nq).cell? ⟨w.heap.size, 4, none⟩ = some (vI rm) := c4
  replace c5 : (w'.drewN nq).cell? ⟨w.heap.size, 5, none⟩ = some (vI ra) := c5
  replace c6 : (w'.drewN nq).cell? ⟨w.heap.size, 6, none⟩ = some (vI imm) := c6
  replace c7 : (w'.drewN nq).cell? ⟨w.heap.size, 7, none⟩ = some (vI imm2) := c7
  replace c8 : (w'.drewN nq).cell? ⟨w.heap.size, 8, none⟩ = some (vI amount) := c8
  replace c9 : (w'.drewN nq).cell? ⟨w.heap.size, 9, none⟩ = some (vI shift) := c9
  replace c10 : (w'.drewN nq).cell? ⟨w.heap.size, 10, none⟩ = some (vI cond) := c10
  replace c11 : (w'.drewN nq).cell? ⟨w.heap.size, 11, none⟩ = some (vI sys) := c11
  replace c12 : (w'.drewN nq).cell? ⟨w.heap.size, 12, none⟩ = some (.bool false) := c12
  replace c13 : (w'.drewN nq).cell? ⟨w.heap.size, 13, none⟩ = some (.bool minus) := c13
  replace c14 : (w'.drewN nq).cell? ⟨w.heap.size, 14, none⟩ = some (.bool not) := c14
  replace c15 : (w'.drewN nq).cell? ⟨w.heap.size, 15, none⟩ = some (.bool link) := c15
  replace HB : Hid (Below w.heap.size w (w'.drewN nq)) := below_drewN HB.out nq
  replace BX : (w'.drewN nq).heap[w.heap.size]? = some (.cells #[vI 31, vI 0, vI rd, vI rn, vI rm, vI ra, vI imm, vI imm2, vI amount, vI shift, vI cond, vI sys, .bool false, .bool minus, .bool not, .bool link] 25) := BX
  generalize w'.drewN nq = w2 at *
  go_wp2_with (first | (go_at_call 23; refine (ac31 _ _ _ _ _ _ _ _ _ _ _ _ _ _ _ _ _ _ _ (by omega) (by omega) (by omega) (by omega) (by omega) (by omega) (by omega) (by omega) (by omega) (by omega) _).mono ?_; rintro e w3 ⟨rfl, hb⟩; replace HB : Hid (Below w.heap.size w w3) := HB.out.trans (hb.mono HB.out.size); clear hb; dsimp only) | ((with_reducible refine wpList_load_if rfl 25 _ rfl w.heap.size rfl 25 _ (0, 0) _ BX Try.underlying25 rfl (infoK _ rfl) ?_); simp only [Act.put, List.setIfInBounds_toArray, List.set_cons_succ, List.set_cons_zero]))
  go_ret2
  refine ⟨ret_tw ?_, HB.out⟩
  rw [hE.out]
  clear hE HB c0 c1 c2 c3 c4 c5 c6 c7 c8 c9 c10 c11 c12 c13 c14 c15
  replace m0 := m0.out
  replace m1 := m1.out
  replace m2 := m2.out
  omega
set_option maxRecDepth 4000 in
set_option maxHeartbeats 8000000 in
theorem en32 (sub rd rn rm ra imm imm2 amount shift cond sys : Int) (minus not link : Bool) (w : World) (hr : rightB ⟨32, sub, rd, rn, rm, ra, imm, imm2, amount, shift, cond, sys, false, minus, not, link⟩ = true) :
    Calls Try.prog 12 #[(⟨32, sub, rd, rn, rm, ra, imm, imm2, amount, shift, cond, sys, false, minus, not, link⟩ : Ins).val] w fun e w' => e = .returned (.tuple #[.int .u32 (encV ⟨32, sub, rd, rn, rm, ra, imm, imm2, amount, shift, cond, sys, false, minus, not, link⟩).1, .bool true]) ∧ Below w.heap.size w w' := by
  have R := rightF hr
  obtain ⟨x0, y0⟩ : (0 : Int) ≤ sys ∧ sys ≤ 32767 := sys_in R.sys
  obtain rfl : sub = 0 := zero_of R.sub
  have hE := (wd33 0 rd rn rm ra imm imm2 amount shift cond sys false minus not link hr).1
  replace hE := show Hid _ from hE
  have HC := rright_c ⟨32, 0, rd, rn, rm, ra, imm, imm2, amount, shift, cond, sys, false, minus, not, link⟩
  rw [hr] at HC
  replace HC := show Hid _ from HC
  clear R hr
  have BX := heap_alloc_new w (.cells #[vI 32, vI 0, vI rd, vI rn, vI rm, vI ra, vI imm, vI imm2, vI amount, vI shift, vI cond, vI sys, .bool false, .bool minus, .bool not, .bool link] 25)
  have HB := below_alloc w (.cells #[vI 32, vI 0, vI rd, vI rn, vI rm, vI ra, vI imm, vI imm2, vI amount, vI shift, vI cond, vI sys, .bool false, .bool minus, .bool not, .bool link] 25)
  have b0 : 0 ≤ lowI rd 5 ∧ lowI rd 5 < 32 := lowI_in _ 5
  have m0 : Hid (lowI rd 5 = rd % 32) := lowI_mod rd 5 (by decide)
  have b1 : 0 ≤ lowI rn 5 ∧ lowI rn 5 < 32 := lowI_in _ 5
  have m1 : Hid (lowI rn 5 = rn % 32) := lowI_mod rn 5 (by decide)
  have b2 : 0 ≤ lowI rm 5 ∧ lowI rm 5 < 32 := lowI_in _ 5
  have m2 : Hid (lowI rm 5 = rm % 32) := lowI_mod rm 5 (by decide)
  have v0 := when_in minus (x := 1073741824) (by decide)
  have e0 : whenI false 536870912 = 0 := rfl
  skip
  go_enter Try.func12, Try.ntmps12
  go_wp2_with (first | (go_at_call 20; refine (HC.out _).mono ?_; rintro e w1 ⟨rfl, hb⟩; replace BX : w1.heap[w.heap.size]? = some (.cells #[vI 32, vI 0, vI rd, vI rn, vI rm, vI ra, vI imm, vI imm2, vI amount, vI shift, vI cond, vI sys, .bool false, .bool minus, .bool not, .bool link] 25) := (hb.block _ (Array.getElem?_eq_some_iff.1 BX).1).trans BX; replace HB : Hid (Below w.heap.size w w1) := HB.trans (hb.mono HB.size); clear hb HC; dsimp only; have c0 := cell_in BX 0 (v := vI 32) rfl; have c1 := cell_in BX 1 (v := vI 0) rfl; have c2 := cell_in BX 2 (v := vI rd) rfl; have c3 := cell_in BX 3 (v := vI rn) rfl; have c4 := cell_in BX 4 (v := vI rm) rfl; have c5 := cell_in BX 5 (v := vI ra) rfl; have c6 := cell_in BX 6 (v := vI imm) rfl; have c7 := cell_in BX 7 (v := vI imm2) rfl; have c8 := cell_in BX 8 (v := vI amount) rfl; have c9 := cell_in BX 9 (v := vI shift) rfl; have c10 := cell_in BX 10 (v := vI cond) rfl; have c11 := cell_in BX 11 (v := vI sys) rfl; have c12 := cell_in BX 12 (v := .bool false) rfl; have c13 := cell_in BX 13 (v := .bool minus) rfl; have c14 := cell_in BX 14 (v := .bool not) rfl; have c15 := cell_in BX 15 (v := .bool link) rfl) | ((with_reducible refine wpList_load_if rfl 25 _ rfl w.heap.size rfl 25 _ (0, 0) _ BX Try.underlying25 rfl (infoK _ rfl) ?_); simp only [Act.put, List.setIfInBounds_toArray, List.set_cons_succ, List.set_cons_zero]) | (go_at_call 21; refine (lowI_c _ _ (by decide) (by decide) _).mono ?_; rintro e w' ⟨rfl, rfl⟩; dsimp only))
  go_quiet ((first | (go_at_call 21; exact Calls.quiet_of_same (lowI_c _ _ (by decide) (by decide) _)) | (go_at_call 22; exact Calls.quiet_of_same (whenI_c _ _ _))))
  replace c0 : (w'.drewN nq).cell? ⟨w.heap.size, 0, none⟩ = some (vI 32) := c0
  replace c1 : (w'.drewN nq).cell? ⟨w.heap.size, 1, none⟩ = some (vI 0) := c1
  replace c2 : (w'.drewN nq).cell? ⟨w.heap.size, 2, none⟩ = some (vI rd) := c2
  replace c3 : (w'.drewN nq).cell? ⟨w.heap.size, 3, none⟩ = some (vI rn) := c3
  replace c4 : (w'.drewN nq).cell? ⟨w.heap.size, 4, none⟩ = some (vI rm) := c4
  replace c5 : (w'.drewN nq).cell? ⟨w.heap.size, 5, none⟩ = some (vI ra) := c5
  replace c6 : (w'.drewN nq).cell? ⟨w.heap.size, 6, none⟩ = some (vI imm) := c6
  replace c7 : (w'.drewN nq).cell? ⟨w.heap.size, 7, none⟩ = some (vI imm2) := c7
  replace c8 : (w'.drewN nq).cell? ⟨w.heap.size, 8, none⟩ = some (vI amount) := c8
  replace c9 : (w'.drewN nq).cell? ⟨w.heap.size, 9, none⟩ = some (vI shift) := c9
  replace c10 : (w'.drewN nq).cell? ⟨w.heap.size, 10, none⟩ = some (vI cond) := c10
  replace c11 : (w'.drewN nq).cell? ⟨w.heap.size, 11, none⟩ = some (vI sys) := c11
  replace c12 : (w'.drewN nq).cell? ⟨w.heap.size, 12, none⟩ = some (.bool false) := c12
  replace c13 : (w'.drewN nq).cell? ⟨w.heap.size, 13, none⟩ = some (.bool minus) := c13
  replace c14 : (w'.drewN nq).cell? ⟨w.heap.size, 14, none⟩ = some (.bool not) := c14
  replace c15 : (w'.drewN nq).cell? ⟨w.heap.size, 15, none⟩ = some (.bool link) := c15
  replace HB : Hid (Below w.heap.size w (w'.drewN nq)) := below_drewN HB.out nq
  replace BX : (w'.drewN nq).heap[w.heap.size]? = some (.cells #[vI 32, vI 0, vI rd, vI rn, vI rm, vI ra, vI imm, vI imm2, vI amount, vI shift, vI cond, vI sys, .bool false, .bool minus, .bool not, .bool link] 25) := BX
  generalize w'.drewN nq = w2 at *
  go_wp2_with (first | (go_at_call 23; refine (ac32 _ _ _ _ _ _ _ _ _ _ _ _ _ _ _ _ _ _ _ (by omega) (by omega) (by omega) (by omega) (by omega) (by omega) (by omega) (by omega) (by omega) (by omega) _).mono ?_; rintro e w3 ⟨rfl, hb⟩; replace HB : Hid (Below w.heap.size w w3) := HB.out.trans (hb.mono HB.out.size); clear hb; dsimp only) | ((with_reducible refine wpList_load_if rfl 25 _ rfl w.heap.size rfl 25 _ (0, 0) _ BX Try.underlying25 rfl (infoK _ rfl) ?_); simp only [Act.put, List.setIfInBounds_toArray, List.set_cons_succ, List.set_cons_zero]))
  go_ret2
  refine ⟨ret_tw ?_, HB.out⟩
  rw [hE.out]
  clear hE HB c0 c1 c2 c3 c4 c5 c6 c7 c8 c9 c10 c11 c12 c13 c14 c15
  replace m0 := m0.out
  replace m1 := m1.out
  replace m2 := m2.out
  omega
set_option maxRecDepth 4000 in
set_option maxHeartbeats 8000000 in
theorem en33_0 (rd rn rm ra imm imm2 amount shift cond sys : Int) (minus not link : Bool) (w : World) (hr : rightB ⟨33, 0, rd, rn, rm, ra, imm, imm2, amount, shift, cond, sys, false, minus, not, link⟩ = true) :
    Calls Try.prog 12 #[(⟨33, 0, rd, rn, rm, ra, imm, imm2, amount, shift, cond, sys, false, minus, not, link⟩ : Ins).val] w fun e w' => e = .returned (.tuple #[.int .u32 (encV ⟨33, 0, rd, rn, rm, ra, imm, imm2, amount, shift, cond, sys, false, minus, not, link⟩).1, .bool true]) ∧ Below w.heap.size w w' := by
  have R := rightF hr
  obtain ⟨x0, y0, z0⟩ := holds_of (lo := 0) (hi := 15) (st := 1) (n := imm) R.imm
  clear z0
  have hE := (wd34 0 rd rn rm ra imm imm2 amount shift cond sys false minus not link hr).1
  replace hE := show Hid _ from hE
  have HC := rright_c ⟨33, 0, rd, rn, rm, ra, imm, imm2, amount, shift, cond, sys, false, minus, not, link⟩
  rw [hr] at HC
  replace HC := show Hid _ from HC
  clear R hr
  have BX := heap_alloc_new w (.cells #[vI 33, vI 0, vI rd, vI rn, vI rm, vI ra, vI imm, vI imm2, vI amount, vI shift, vI cond, vI sys, .bool false, .bool minus, .bool not, .bool link] 25)
  have HB := below_alloc w (.cells #[vI 33, vI 0, vI rd, vI rn, vI rm, vI ra, vI imm, vI imm2, vI amount, vI shift, vI cond, vI sys, .bool false, .bool minus, .bool not, .bool link] 25)
  have b0 : 0 ≤ lowI rd 5 ∧ lowI rd 5 < 32 := lowI_in _ 5
  have m0 : Hid (lowI rd 5 = rd % 32) := lowI_mod rd 5 (by decide)
  have b1 : 0 ≤ lowI rn 5 ∧ lowI rn 5 < 32 := lowI_in _ 5
  have m1 : Hid (lowI rn 5 = rn % 32) := lowI_mod rn 5 (by decide)
  have b2 : 0 ≤ lowI rm 5 ∧ lowI rm 5 < 32 := lowI_in _ 5
  have m2 : Hid (lowI rm 5 = rm % 32) := lowI_mod rm 5 (by decide)
  have v0 := when_in minus (x := 1073741824) (by decide)
  have e0 : whenI false 536870912 = 0 := rfl
  skip
  go_enter Try.func12, Try.ntmps12
  go_wp2_with (first | (go_at_call 20; refine (HC.out _).mono ?_; rintro e w1 ⟨rfl, hb⟩; replace BX : w1.heap[w.heap.size]? = some (.cells #[vI 33, vI 0, vI rd, vI rn, vI rm, vI ra, vI imm, vI imm2, vI amount, vI shift, vI cond, vI sys, .bool false, .bool minus, .bool not, .bool link] 25) := (hb.block _ (Array.getElem?_eq_some_iff.1 BX).1).trans BX; replace HB : Hid (Below w.heap.size w w1) := HB.trans (hb.mono HB.size); clear hb HC; dsimp only; have c0 := cell_in BX 0 (v := vI 33) rfl; have c1 := cell_in BX 1 (v := vI 0) rfl; have c2 := cell_in BX 2 (v := vI rd) rfl; have c3 := cell_in BX 3 (v := vI rn) rfl; have c4 := cell_in BX 4 (v := vI rm) rfl; have c5 := cell_in BX 5 (v := vI ra) rfl; have c6 := cell_in BX 6 (v := vI imm) rfl; have c7 := cell_in BX 7 (v := vI imm2) rfl; have c8 := cell_in BX 8 (v := vI amount) rfl; have c9 := cell_in BX 9 (v := vI shift) rfl; have c10 := cell_in BX 10 (v := vI cond) rfl; have c11 := cell_in BX 11 (v := vI sys) rfl; have c12 := cell_in BX 12 (v := .bool false) rfl; have c13 := cell_in BX 13 (v := .bool minus) rfl; have c14 := cell_in BX 14 (v := .bool not) rfl; have c15 := cell_in BX 15 (v := .bool link) rfl) | ((with_reducible refine wpList_load_if rfl 25 _ rfl w.heap.size rfl 25 _ (0, 0) _ BX Try.underlying25 rfl (infoK _ rfl) ?_); simp only [Act.put, List.setIfInBounds_toArray, List.set_cons_succ, List.set_cons_zero]) | (go_at_call 21; refine (lowI_c _ _ (by decide) (by decide) _).mono ?_; rintro e w' ⟨rfl, rfl⟩; dsimp only))
  go_quiet ((first | (go_at_call 21; exact Calls.quiet_of_same (lowI_c _ _ (by decide) (by decide) _)) | (go_at_call 22; exact Calls.quiet_of_same (whenI_c _ _ _))))
  replace c0 : (w'.drewN nq).cell? ⟨w.heap.size, 0, none⟩ = some (vI 33) := c0
  replace c1 : (w'.drewN nq).cell? ⟨w.heap.size, 1, none⟩ = some (vI 0) := c1
  replace c2 : (w'.drewN nq).cell? ⟨w.heap.size, 2, none⟩ = some (vI rd) := c2
  replace c3 : (w'.drewN nq).cell? ⟨w.heap.size, 3, none⟩ = some (vI rn) := c3
  replace c4 : (w'.drewN nq).cell? ⟨w.heap.size, 4, none⟩ = some (vI rm) := c4
  replace c5 : (w'.drewN nq).cell? ⟨w.heap.size, 5, none⟩ = some (vI ra) := c5
  replace c6 : (w'.drewN nq).cell? ⟨w.heap.size, 6, none⟩ = some (vI imm) := c6
  replace c7 : (w'.drewN nq).cell? ⟨w.heap.size, 7, none⟩ = some (vI imm2) := c7
  replace c8 : (w'.drewN nq).cell? ⟨w.heap.size, 8, none⟩ = some (vI amount) := c8
  replace c9 : (w'.drewN nq).cell? ⟨w.heap.size, 9, none⟩ = some (vI shift) := c9
  replace c10 : (w'.drewN nq).cell? ⟨w.heap.size, 10, none⟩ = some (vI cond) := c10
  replace c11 : (w'.drewN nq).cell? ⟨w.heap.size, 11, none⟩ = some (vI sys) := c11
  replace c12 : (w'.drewN nq).cell? ⟨w.heap.size, 12, none⟩ = some (.bool false) := c12
  replace c13 : (w'.drewN nq).cell? ⟨w.heap.size, 13, none⟩ = some (.bool minus) := c13
  replace c14 : (w'.drewN nq).cell? ⟨w.heap.size, 14, none⟩ = some (.bool not) := c14
  replace c15 : (w'.drewN nq).cell? ⟨w.heap.size, 15, none⟩ = some (.bool link) := c15
  replace HB : Hid (Below w.heap.size w (w'.drewN nq)) := below_drewN HB.out nq
  replace BX : (w'.drewN nq).heap[w.heap.size]? = some (.cells #[vI 33, vI 0, vI rd, vI rn, vI rm, vI ra, vI imm, vI imm2, vI amount, vI shift, vI cond, vI sys, .bool false, .bool minus, .bool not, .bool link] 25) := BX
  generalize w'.drewN nq = w2 at *
  go_wp2_with (first | (go_at_call 23; refine (ac33 _ _ _ _ _ _ _ _ _ _ _ _ _ _ _ _ _ _ _ (by omega) (by omega) (by omega) (by omega) (by omega) (by omega) (by omega) (by omega) (by omega) (by omega) _).mono ?_; rintro e w3 ⟨rfl, hb⟩; replace HB : Hid (Below w.heap.size w w3) := HB.out.trans (hb.mono HB.out.size); clear hb; dsimp only) | ((with_reducible refine wpList_load_if rfl 25 _ rfl w.heap.size rfl 25 _ (0, 0) _ BX Try.underlying25 rfl (infoK _ rfl) ?_); simp only [Act.put, List.setIfInBounds_toArray, List.set_cons_succ, List.set_cons_zero]))
  go_ret2
  refine ⟨ret_tw ?_, HB.out⟩
  rw [hE.out]
  clear hE HB c0 c1 c2 c3 c4 c5 c6 c7 c8 c9 c10 c11 c12 c13 c14 c15
  replace m0 := m0.out
  replace m1 := m1.out
  replace m2 := m2.out
  omega
set_option maxRecDepth 4000 in
set_option maxHeartbeats 8000000 in
theorem en33_1 (rd rn rm ra imm imm2 amount shift cond sys : Int) (minus not link : Bool) (w : World) (hr : rightB ⟨33, 1, rd, rn, rm, ra, imm, imm2, amount, shift, cond, sys, false, minus, not, link⟩ = true) :
    Calls Try.prog 12 #[(⟨33, 1, rd, rn, rm, ra, imm, imm2, amount, shift, cond, sys, false, minus, not, link⟩ : Ins).val] w fun e w' => e = .returned (.tuple #[.int .u32 (encV ⟨33, 1, rd, rn, rm, ra, imm, imm2, amount, shift, cond, sys, false, minus, not, link⟩).1, .bool true]) ∧ Below w.heap.size w w' := by
  have R := rightF hr
  obtain ⟨x0, y0, z0⟩ := holds_of (lo := 0) (hi := 15) (st := 1) (n := imm) R.imm
  clear z0
  have hE := (wd35 1 rd rn rm ra imm imm2 amount shift cond sys false minus not link hr).1
  replace hE := show Hid _ from hE
  have HC := rright_c ⟨33, 1, rd, rn, rm, ra, imm, imm2, amount, shift, cond, sys, false, minus, not, link⟩
  rw [hr] at HC
  replace HC := show Hid _ from HC
  clear R hr
  have BX := heap_alloc_new w (.cells #[vI 33, vI 1, vI rd, vI rn, vI rm, vI ra, vI imm, vI imm2, vI amount, vI shift, vI cond, vI sys, .bool false, .bool minus, .bool not, .bool link] 25)
  have HB := below_alloc w (.cells #[vI 33, vI 1, vI rd, vI rn, vI rm, vI ra, vI imm, vI imm2, vI amount, vI shift, vI cond, vI sys, .bool false, .bool minus, .bool not, .bool link] 25)
  have b0 : 0 ≤ lowI rd 5 ∧ lowI rd 5 < 32 := lowI_in _ 5
  have m0 : Hid (lowI rd 5 = rd % 32) := lowI_mod rd 5 (by decide)
  have b1 : 0 ≤ lowI rn 5 ∧ lowI rn 5 < 32 := lowI_in _ 5
  have m1 : Hid (lowI rn 5 = rn % 32) := lowI_mod rn 5 (by decide)
  have b2 : 0 ≤ lowI rm 5 ∧ lowI rm 5 < 32 := lowI_in _ 5
  have m2 : Hid (lowI rm 5 = rm % 32) := lowI_mod rm 5 (by decide)
  have v0 := when_in minus (x := 1073741824) (by decide)
  have e0 : whenI false 536870912 = 0 := rfl
  skip
  go_enter Try.func12, Try.ntmps12
  go_wp2_with (first | (go_at_call 20; refine (HC.out _).mono ?_; rintro e w1 ⟨rfl, hb⟩; replace BX : w1.heap[w.heap.size]? = some (.cells #[vI 33, vI 1, vI rd, vI rn, vI rm, vI ra, vI imm, vI imm2, vI amount, vI shift, vI cond, vI sys, .bool false, .bool minus, .bool not, .bool link] 25) := (hb.block _ (Array.getElem?_eq_some_iff.1 BX).1).trans BX; replace HB : Hid (Below w.heap.size w w1) := HB.trans (hb.mono HB.size); clear hb HC; dsimp only; have c0 := cell_in BX 0 (v := vI 33) rfl; have c1 := cell_in BX 1 (v := vI 1) rfl; have c2 := cell_in BX 2 (v := vI rd) rfl; have c3 := cell_in BX 3 (v := vI rn) rfl; have c4 := cell_in BX 4 (v := vI rm) rfl; have c5 := cell_in BX 5 (v := vI ra) rfl; have c6 := cell_in BX 6 (v := vI imm) rfl; have c7 := cell_in BX 7 (v := vI imm2) rfl; have c8 := cell_in BX 8 (v := vI amount) rfl; have c9 := cell_in BX 9 (v := vI shift) rfl; have c10 := cell_in BX 10 (v := vI cond) rfl; have c11 := cell_in BX 11 (v := vI sys) rfl; have c12 := cell_in BX 12 (v := .bool false) rfl; have c13 := cell_in BX 13 (v := .bool minus) rfl; have c14 := cell_in BX 14 (v := .bool not) rfl; have c15 := cell_in BX 15 (v := .bool link) rfl) | ((with_reducible refine wpList_load_if rfl 25 _ rfl w.heap.size rfl 25 _ (0, 0) _ BX Try.underlying25 rfl (infoK _ rfl) ?_); simp only [Act.put, List.setIfInBounds_toArray, List.set_cons_succ, List.set_cons_zero]) | (go_at_call 21; refine (lowI_c _ _ (by decide) (by decide) _).mono ?_; rintro e w' ⟨rfl, rfl⟩; dsimp only))
  go_quiet ((first | (go_at_call 21; exact Calls.quiet_of_same (lowI_c _ _ (by decide) (by decide) _)) | (go_at_call 22; exact Calls.quiet_of_same (whenI_c _ _ _))))
  replace c0 : (w'.drewN nq).cell? ⟨w.heap.size, 0, none⟩ = some (vI 33) := c0
  replace c1 : (w'.drewN nq).cell? ⟨w.heap.size, 1, none⟩ = some (vI 1) := c1
  replace c2 : (w'.drewN nq).cell? ⟨w.heap.size, 2, none⟩ = some (vI rd) := c2
  replace c3 : (w'.drewN nq).cell? ⟨w.heap.size, 3, none⟩ = some (vI rn) := c3
  replace c4 : (w'.drewN nq).cell? ⟨w.heap.size, 4, none⟩ = some (vI rm) := c4
  replace c5 : (w'.drewN nq).cell? ⟨w.heap.size, 5, none⟩ = some (vI ra) := c5
  replace c6 : (w'.drewN nq).cell? ⟨w.heap.size, 6, none⟩ = some (vI imm) := c6
  replace c7 : (w'.drewN nq).cell? ⟨w.heap.size, 7, none⟩ = some (vI imm2) := c7
  replace c8 : (w'.drewN nq).cell? ⟨w.heap.size, 8, none⟩ = some (vI amount) := c8
  replace c9 : (w'.drewN nq).cell? ⟨w.heap.size, 9, none⟩ = some (vI shift) := c9
  replace c10 : (w'.drewN nq).cell? ⟨w.heap.size, 10, none⟩ = some (vI cond) := c10
  replace c11 : (w'.drewN nq).cell? ⟨w.heap.size, 11, none⟩ = some (vI sys) := c11
  replace c12 : (w'.drewN nq).cell? ⟨w.heap.size, 12, none⟩ = some (.bool false) := c12
  replace c13 : (w'.drewN nq).cell? ⟨w.heap.size, 13, none⟩ = some (.bool minus) := c13
  replace c14 : (w'.drewN nq).cell? ⟨w.heap.size, 14, none⟩ = some (.bool not) := c14
  replace c15 : (w'.drewN nq).cell? ⟨w.heap.size, 15, none⟩ = some (.bool link) := c15
  replace HB : Hid (Below w.heap.size w (w'.drewN nq)) := below_drewN HB.out nq
  replace BX : (w'.drewN nq).heap[w.heap.size]? = some (.cells #[vI 33, vI 1, vI rd, vI rn, vI rm, vI ra, vI imm, vI imm2, vI amount, vI shift, vI cond, vI sys, .bool false, .bool minus, .bool not, .bool link] 25) := BX
  generalize w'.drewN nq = w2 at *
  go_wp2_with (first | (go_at_call 23; refine (ac33 _ _ _ _ _ _ _ _ _ _ _ _ _ _ _ _ _ _ _ (by omega) (by omega) (by omega) (by omega) (by omega) (by omega) (by omega) (by omega) (by omega) (by omega) _).mono ?_; rintro e w3 ⟨rfl, hb⟩; replace HB : Hid (Below w.heap.size w w3) := HB.out.trans (hb.mono HB.out.size); clear hb; dsimp only) | ((with_reducible refine wpList_load_if rfl 25 _ rfl w.heap.size rfl 25 _ (0, 0) _ BX Try.underlying25 rfl (infoK _ rfl) ?_); simp only [Act.put, List.setIfInBounds_toArray, List.set_cons_succ, List.set_cons_zero]))
  go_ret2
  refine ⟨ret_tw ?_, HB.out⟩
  rw [hE.out]
  clear hE HB c0 c1 c2 c3 c4 c5 c6 c7 c8 c9 c10 c11 c12 c13 c14 c15
  replace m0 := m0.out
  replace m1 := m1.out
  replace m2 := m2.out
  omega
set_option maxRecDepth 4000 in
set_option maxHeartbeats 8000000 in
theorem en34 (sub rd rn rm ra imm imm2 amount shift cond sys : Int) (minus not link : Bool) (w : World) (hr : rightB ⟨34, sub, rd, rn, rm, ra, imm, imm2, amount, shift, cond, sys, false, minus, not, link⟩ = true) :
    Calls Try.prog 12 #[(⟨34, sub, rd, rn, rm, ra, imm, imm2, amount, shift, cond, sys, false, minus, not, link⟩ : Ins).val] w fun e w' => e = .returned (.tuple #[.int .u32 (encV ⟨34, sub, rd, rn, rm, ra, imm, imm2, amount, shift, cond, sys, false, minus, not, link⟩).1, .bool true]) ∧ Below w.heap.size w w' := by
  have R := rightF hr
  obtain ⟨x0, y0, z0⟩ := holds_of (lo := 0) (hi := 65535) (st := 1) (n := imm) R.imm
  clear z0
  obtain rfl : sub = 0 := zero_of R.sub
  have hE := (wd36 0 rd rn rm ra imm imm2 amount shift cond sys false minus not link hr).1
  replace hE := show Hid _ from hE
  have HC := rright_c ⟨34, 0, rd, rn, rm, ra, imm, imm2, amount, shift, cond, sys, false, minus, not, link⟩
  rw [hr] at HC
  replace HC := show Hid _ from HC
  clear R hr
  have BX := heap_alloc_new w (.cells #[vI 34, vI 0, vI rd, vI rn, vI rm, vI ra, vI imm, vI imm2, vI amount, vI shift, vI cond, vI sys, .bool false, .bool minus, .bool not, .bool link] 25)
  have HB := below_alloc w (.cells #[vI 34, vI 0, vI rd, vI rn, vI rm, vI ra, vI imm, vI imm2, vI amount, vI shift, vI cond, vI sys, .bool false, .bool minus, .bool not, .bool link] 25)
  have b0 : 0 ≤ lowI rd 5 ∧ lowI rd 5 < 32 := lowI_in _ 5
  have m0 : Hid (lowI rd 5 = rd % 32) := lowI_mod rd 5 (by decide)
  have b1 : 0 ≤ lowI rn 5 ∧ lowI rn 5 < 32 := lowI_in _ 5
  have m1 : Hid (lowI rn 5 = rn % 32) := lowI_mod rn 5 (by decide)
  have b2 : 0 ≤ lowI rm 5 ∧ lowI rm 5 < 32 := lowI_in _ 5
  have m2 : Hid (lowI rm 5 = rm % 32) := lowI_mod rm 5 (by decide)
  have v0 := when_in minus (x := 1073741824) (by decide)
  have e0 : whenI false 536870912 = 0 := rfl
  skip
  go_enter Try.func12, Try.ntmps12
  go_wp2_with (first | (go_at_call 20; refine (HC.out _).mono ?_; rintro e w1 ⟨rfl, hb⟩; replace BX : w1.heap[w.heap.size]? = some (.cells #[vI 34, vI 0, vI rd, vI rn, vI rm, vI ra, vI imm, vI imm2, vI amount, vI shift, vI cond, vI sys, .bool false, .bool minus, .bool not, .bool link] 25) := (hb.block _ (Array.getElem?_eq_some_iff.1 BX).1).trans BX; replace HB : Hid (Below w.heap.size w w1) := HB.trans (hb.mono HB.size); clear hb HC; dsimp only; have c0 := cell_in BX 0 (v := vI 34) rfl; have c1 := cell_in BX 1 (v := vI 0) rfl; have c2 := cell_in BX 2 (v := vI rd) rfl; have c3 := cell_in BX 3 (v := vI rn) rfl; have c4 := cell_in BX 4 (v := vI rm) rfl; have c5 := cell_in BX 5 (v := vI ra) rfl; have c6 := cell_in BX 6 (v := vI imm) rfl; have c7 := cell_in BX 7 (v := vI imm2) rfl; have c8 := cell_in BX 8 (v := vI amount) rfl; have c9 := cell_in BX 9 (v := vI shift) rfl; have c10 := cell_in BX 10 (v := vI cond) rfl; have c11 := cell_in BX 11 (v := vI sys) rfl; have c12 := cell_in BX 12 (v := .bool false) rfl; have c13 := cell_in BX 13 (v := .bool minus) rfl; have c14 := cell_in BX 14 (v := .bool not) rfl; have c15 := cell_in BX 15 (v := .bool link) rfl) | ((with_reducible refine wpList_load_if rfl 25 _ rfl w.heap.size rfl 25 _ (0, 0) _ BX Try.underlying25 rfl (infoK _ rfl) ?_); simp only [Act.put, List.setIfInBounds_toArray, List.set_cons_succ, List.set_cons_zero]) | (go_at_call 21; refine (lowI_c _ _ (by decide) (by decide) _).mono ?_; rintro e w' ⟨rfl, rfl⟩; dsimp only))
  go_quiet ((first | (go_at_call 21; exact Calls.quiet_of_same (lowI_c _ _ (by decide) (by decide) _)) | (go_at_call 22; exact Calls.quiet_of_same (whenI_c _ _ _))))
  replace c0 : (w'.drewN nq).cell? ⟨w.heap.size, 0, none⟩ = some (vI 34) := c0
  replace c1 : (w'.drewN nq).cell? ⟨w.heap.size, 1, none⟩ = some (vI 0) := c1
  replace c2 : (w'.drewN nq).cell? ⟨w.heap.size, 2, none⟩ = some (vI rd) := c2
  replace c3 : (w'.drewN nq).cell? ⟨w.heap.size, 3, none⟩ = some (vI rn) := c3
  replace c4 : (w'.drewN nq).cell? ⟨w.heap.size, 4, none⟩ = some (vI rm) := c4
  replace c5 : (w'.drewN nq).cell? ⟨w.heap.size, 5, none⟩ = some (vI ra) := c5
  replace c6 : (w'.drewN nq).cell? ⟨w.heap.size, 6, none⟩ = some (vI imm) := c6
  replace c7 : (w'.drewN nq).cell? ⟨w.heap.size, 7, none⟩ = some (vI imm2) := c7
  replace c8 : (w'.drewN nq).cell? ⟨w.heap.size, 8, none⟩ = some (vI amount) := c8
  replace c9 : (w'.drewN nq).cell? ⟨w.heap.size, 9, none⟩ = some (vI shift) := c9
  replace c10 : (w'.drewN nq).cell? ⟨w.heap.size, 10, none⟩ = some (vI cond) := c10
  replace c11 : (w'.drewN nq).cell? ⟨w.heap.size, 11, none⟩ = some (vI sys) := c11
  replace c12 : (w'.drewN nq).cell? ⟨w.heap.size, 12, none⟩ = some (.bool false) := c12
  replace c13 : (w'.drewN nq).cell? ⟨w.heap.size, 13, none⟩ = some (.bool minus) := c13
  replace c14 : (w'.drewN nq).cell? ⟨w.heap.size, 14, none⟩ = some (.bool not) := c14
  replace c15 : (w'.drewN nq).cell? ⟨w.heap.size, 15, none⟩ = some (.bool link) := c15
  replace HB : Hid (Below w.heap.size w (w'.drewN nq)) := below_drewN HB.out nq
  replace BX : (w'.drewN nq).heap[w.heap.size]? = some (.cells #[vI 34, vI 0, vI rd, vI rn, vI rm, vI ra, vI imm, vI imm2, vI amount, vI shift, vI cond, vI sys, .bool false, .bool minus, .bool not, .bool link] 25) := BX
  generalize w'.drewN nq = w2 at *
  go_wp2_with (first | (go_at_call 23; refine (ac34 _ _ _ _ _ _ _ _ _ _ _ _ _ _ _ _ _ _ _ (by omega) (by omega) (by omega) (by omega) (by omega) (by omega) (by omega) (by omega) (by omega) (by omega) _).mono ?_; rintro e w3 ⟨rfl, hb⟩; replace HB : Hid (Below w.heap.size w w3) := HB.out.trans (hb.mono HB.out.size); clear hb; dsimp only) | ((with_reducible refine wpList_load_if rfl 25 _ rfl w.heap.size rfl 25 _ (0, 0) _ BX Try.underlying25 rfl (infoK _ rfl) ?_); simp only [Act.put, List.setIfInBounds_toArray, List.set_cons_succ, List.set_cons_zero]))
  go_ret2
  refine ⟨ret_tw ?_, HB.out⟩
  rw [hE.out]
  clear hE HB c0 c1 c2 c3 c4 c5 c6 c7 c8 c9 c10 c11 c12 c13 c14 c15
  replace m0 := m0.out
  replace m1 := m1.out
  replace m2 := m2.out
  omega
set_option maxRecDepth 4000 in
set_option maxHeartbeats 8000000 in
theorem en35 (sub rd rn rm ra imm imm2 amount shift cond sys : Int) (minus not link : Bool) (w : World) (hr : rightB ⟨35, sub, rd, rn, rm, ra, imm, imm2, amount, shift, cond, sys, false, minus, not, link⟩ = true) :
    Calls Try.prog 12 #[(⟨35, sub, rd, rn, rm, ra, imm, imm2, amount, shift, cond, sys, false, minus, not, link⟩ : Ins).val] w fun e w' => e = .returned (.tuple #[.int .u32 (encV ⟨35, sub, rd, rn, rm, ra, imm, imm2, amount, shift, cond, sys, false, minus, not, link⟩).1, .bool true]) ∧ Below w.heap.size w w' := by
  have R := rightF hr
  obtain ⟨x0, y0, z0⟩ := holds_of (lo := 0) (hi := 65535) (st := 1) (n := imm) R.imm
  clear z0
  obtain rfl : sub = 0 := zero_of R.sub
  have hE := (wd37 0 rd rn rm ra imm imm2 amount shift cond sys false minus not link hr).1
  replace hE := show Hid _ from hE
  have HC := rright_c ⟨35, 0, rd, rn, rm, ra, imm, imm2, amount, shift, cond, sys, false, minus, not, link⟩
  rw [hr] at HC
  replace HC := show Hid _ from HC
  clear R hr
  have BX := heap_alloc_new w (.cells #[vI 35, vI 0, vI rd, vI rn, vI rm, vI ra, vI imm, vI imm2, vI amount, vI shift, vI cond, vI sys, .bool false, .bool minus, .bool not, .bool link] 25)
  have HB := below_alloc w (.cells #[vI 35, vI 0, vI rd, vI rn, vI rm, vI ra, vI imm, vI imm2, vI amount, vI shift, vI cond, vI sys, .bool false, .bool minus, .bool not, .bool link] 25)
  have b0 : 0 ≤ lowI rd 5 ∧ lowI rd 5 < 32 := lowI_in _ 5
  have m0 : Hid (lowI rd 5 = rd % 32) := lowI_mod rd 5 (by decide)
  have b1 : 0 ≤ lowI rn 5 ∧ lowI rn 5 < 32 := lowI_in _ 5
  have m1 : Hid (lowI rn 5 = rn % 32) := lowI_mod rn 5 (by decide)
  have b2 : 0 ≤ lowI rm 5 ∧ lowI rm 5 < 32 := lowI_in _ 5
  have m2 : Hid (lowI rm 5 = rm % 32) := lowI_mod rm 5 (by decide)
  have v0 := when_in minus (x := 1073741824) (by decide)
  have e0 : whenI false 536870912 = 0 := rfl
  skip
  go_enter Try.func12, Try.ntmps12
  go_wp2_with (first | (go_at_call 20; refine (HC.out _).mono ?_; rintro e w1 ⟨rfl, hb⟩; replace BX : w1.heap[w.heap.size]? = some (.cells #[vI 35, vI 0, vI rd, vI rn, vI rm, vI ra, vI imm, vI imm2, vI amount, vI shift, vI cond, vI sys, .bool false, .bool minus, .bool not, .bool link] 25) := (hb.block _ (Array.getElem?_eq_some_iff.1 BX).1).trans BX; replace HB : Hid (Below w.heap.size w w1) := HB.trans (hb.mono HB.size); clear hb HC; dsimp only; have c0 := cell_in BX 0 (v := vI 35) rfl; have c1 := cell_in BX 1 (v := vI 0) rfl; have c2 := cell_in BX 2 (v := vI rd) rfl; have c3 := cell_in BX 3 (v := vI rn) rfl; have c4 := cell_in BX 4 (v := vI rm) rfl; have c5 := cell_in BX 5 (v := vI ra) rfl; have c6 := cell_in BX 6 (v := vI imm) rfl; have c7 := cell_in BX 7 (v := vI imm2) rfl; have c8 := cell_in BX 8 (v := vI amount) rfl; have c9 := cell_in BX 9 (v := vI shift) rfl; have c10 := cell_in BX 10 (v := vI cond) rfl; have c11 := cell_in BX 11 (v := vI sys) rfl; have c12 := cell_in BX 12 (v := .bool false) rfl; have c13 := cell_in BX 13 (v := .bool minus) rfl; have c14 := cell_in BX 14 (v := .bool not) rfl; have c15 := cell_in BX 15 (v := .bool link) rfl) | ((with_reducible refine wpList_load_if rfl 25 _ rfl w.heap.size rfl 25 _ (0, 0) _ BX Try.underlying25 rfl (infoK _ rfl) ?_); simp only [Act.put, List.setIfInBounds_toArray, List.set_cons_succ, List.set_cons_zero]) | (go_at_call 21; refine (lowI_c _ _ (by decide) (by decide) _).mono ?_; rintro e w' ⟨rfl, rfl⟩; dsimp only))
  go_quiet ((first | (go_at_call 21; exact Calls.quiet_of_same (lowI_c _ _ (by decide) (by decide) _)) | (go_at_call 22; exact Calls.quiet_of_same (whenI_c _ _ _))))
  replace c0 : (w'.drewN nq).cell? ⟨w.heap.size, 0, none⟩ = some (vI 35) := c0
  replace c1 : (w'.drewN nq).cell? ⟨w.heap.size, 1, none⟩ = some (vI 0) := c1
  replace c2 : (w'.drewN nq).cell? ⟨w.heap.size, 2, none⟩ = some (vI rd) := c2
  replace c3 : (w'.drewN nq).cell? ⟨w.heap.size, 3, none⟩ = some (vI rn) := c3
  replace c4 : (w'.drewN nq).cell? ⟨w.heap.size, 4, none⟩ = some (vI rm) := c4
  replace c5 : (w'.drewN nq).cell? ⟨w.heap.size, 5, none⟩ = some (vI ra) := c5
  replace c6 : (w'.drewN nq).cell? ⟨w.heap.size, 6, none⟩ = some (vI imm) := c6
  replace c7 : (w'.drewN nq).cell? ⟨w.heap.size, 7, none⟩ = some (vI imm2) := c7
  replace c8 : (w'.drewN nq).cell? ⟨w.heap.size, 8, none⟩ = some (vI amount) := c8
  replace c9 : (w'.drewN nq).cell? ⟨w.heap.size, 9, none⟩ = some (vI shift) := c9
  replace c10 : (w'.drewN nq).cell? ⟨w.heap.size, 10, none⟩ = some (vI cond) := c10
  replace c11 : (w'.drewN nq).cell? ⟨w.heap.size, 11, none⟩ = some (vI sys) := c11
  replace c12 : (w'.drewN nq).cell? ⟨w.heap.size, 12, none⟩ = some (.bool false) := c12
  replace c13 : (w'.drewN nq).cell? ⟨w.heap.size, 13, none⟩ = some (.bool minus) := c13
  replace c14 : (w'.drewN nq).cell? ⟨w.heap.size, 14, none⟩ = some (.bool not) := c14
  replace c15 : (w'.drewN nq).cell? ⟨w.heap.size, 15, none⟩ = some (.bool link) := c15
  replace HB : Hid (Below w.heap.size w (w'.drewN nq)) := below_drewN HB.out nq
  replace BX : (w'.drewN nq).heap[w.heap.size]? = some (.cells #[vI 35, vI 0, vI rd, vI rn, vI rm, vI ra, vI imm, vI imm2, vI amount, vI shift, vI cond, vI sys, .bool false, .bool minus, .bool not, .bool link] 25) := BX
  generalize w'.drewN nq = w2 at *
  go_wp2_with (first | (go_at_call 23; refine (ac35 _ _ _ _ _ _ _ _ _ _ _ _ _ _ _ _ _ _ _ (by omega) (by omega) (by omega) (by omega) (by omega) (by omega) (by omega) (by omega) (by omega) (by omega) _).mono ?_; rintro e w3 ⟨rfl, hb⟩; replace HB : Hid (Below w.heap.size w w3) := HB.out.trans (hb.mono HB.out.size); clear hb; dsimp only) | ((with_reducible refine wpList_load_if rfl 25 _ rfl w.heap.size rfl 25 _ (0, 0) _ BX Try.underlying25 rfl (infoK _ rfl) ?_); simp only [Act.put, List.setIfInBounds_toArray, List.set_cons_succ, List.set_cons_zero]))
  go_ret2
  refine ⟨ret_tw ?_, HB.out⟩
  rw [hE.out]
  clear hE HB c0 c1 c2 c3 c4 c5 c6 c7 c8 c9 c10 c11 c12 c13 c14 c15
  replace m0 := m0.out
  replace m1 := m1.out
  replace m2 := m2.out
  omega
set_option maxRecDepth 4000 in
set_option maxHeartbeats 8000000 in
theorem en36 (sub rd rn rm ra imm imm2 amount shift cond sys : Int) (minus not link : Bool) (w : World) (hr : rightB ⟨36, sub, rd, rn, rm, ra, imm, imm2, amount, shift, cond, sys, false, minus, not, link⟩ = true) :
    Calls Try.prog 12 #[(⟨36, sub, rd, rn, rm, ra, imm, imm2, amount, shift, cond, sys, false, minus, not, link⟩ : Ins).val] w fun e w' => e = .returned (.tuple #[.int .u32 (encV ⟨36, sub, rd, rn, rm, ra, imm, imm2, amount, shift, cond, sys, false, minus, not, link⟩).1, .bool true]) ∧ Below w.heap.size w w' := by
  have R := rightF hr
  obtain rfl : sub = 0 := zero_of R.sub
  have hE := (wd38 0 rd rn rm ra imm imm2 amount shift cond sys false minus not link hr).1
  replace hE := show Hid _ from hE
  have HC := rright_c ⟨36, 0, rd, rn, rm, ra, imm, imm2, amount, shift, cond, sys, false, minus, not, link⟩
  rw [hr] at HC
  replace HC := show Hid _ from HC
  clear R hr
  have BX := heap_alloc_new w (.cells #[vI 36, vI 0, vI rd, vI rn, vI rm, vI ra, vI imm, vI imm2, vI amount, vI shift, vI cond, vI sys, .bool false, .bool minus, .bool not, .bool link] 25)
  have HB := below_alloc w (.cells #[vI 36, vI 0, vI rd, vI rn, vI rm, vI ra, vI imm, vI imm2, vI amount, vI shift, vI cond, vI sys, .bool false, .bool minus, .bool not, .bool link] 25)
  have b0 : 0 ≤ lowI rd 5 ∧ lowI rd 5 < 32 := lowI_in _ 5
  have m0 : Hid (lowI rd 5 = rd % 32) := lowI_mod rd 5 (by decide)
  have b1 : 0 ≤ lowI rn 5 ∧ lowI rn 5 < 32 := lowI_in _ 5
  have m1 : Hid (lowI rn 5 = rn % 32) := lowI_mod rn 5 (by decide)
  have b2 : 0 ≤ lowI rm 5 ∧ lowI rm 5 < 32 := lowI_in _ 5
  have m2 : Hid (lowI rm 5 = rm % 32) := lowI_mod rm 5 (by decide)
  have v0 := when_in minus (x := 1073741824) (by decide)
  have e0 : whenI false 536870912 = 0 := rfl
  skip
  go_enter Try.func12, Try.ntmps12
  go_wp2_with (first | (go_at_call 20; refine (HC.out _).mono ?_; rintro e w1 ⟨rfl, hb⟩; replace BX : w1.heap[w.heap.size]? = some (.cells #[vI 36, vI 0, vI rd, vI rn, vI rm, vI ra, vI imm, vI imm2, vI amount, vI shift, vI cond, vI sys, .bool false, .bool minus, .bool not, .bool link] 25) := (hb.block _ (Array.getElem?_eq_some_iff.1 BX).1).trans BX; replace HB : Hid (Below w.heap.size w w1) := HB.trans (hb.mono HB.size); clear hb HC; dsimp only; have c0 := cell_in BX 0 (v := vI 36) rfl; have c1 := cell_in BX 1 (v := vI 0) rfl; have c2 := cell_in BX 2 (v := vI rd) rfl; have c3 := cell_in BX 3 (v := vI rn) rfl; have c4 := cell_in BX 4 (v := vI rm) rfl; have c5 := cell_in BX 5 (v := vI ra) rfl; have c6 := cell_in BX 6 (v := vI imm) rfl; have c7 := cell_in BX 7 (v := vI imm2) rfl; have c8 := cell_in BX 8 (v := vI amount) rfl; have c9 := cell_in BX 9 (v := vI shift) rfl; have c10 := cell_in BX 10 (v := vI cond) rfl; have c11 := cell_in BX 11 (v := vI sys) rfl; have c12 := cell_in BX 12 (v := .bool false) rfl; have c13 := cell_in BX 13 (v := .bool minus) rfl; have c14 := cell_in BX 14 (v := .bool not) rfl; have c15 := cell_in BX 15 (v := .bool link) rfl) | ((with_reducible refine wpList_load_if rfl 25 _ rfl w.heap.size rfl 25 _ (0, 0) _ BX Try.underlying25 rfl (infoK _ rfl) ?_); simp only [Act.put, List.setIfInBounds_toArray, List.set_cons_succ, List.set_cons_zero]) | (go_at_call 21; refine (lowI_c _ _ (by decide) (by decide) _).mono ?_; rintro e w' ⟨rfl, rfl⟩; dsimp only))
  go_quiet ((first | (go_at_call 21; exact Calls.quiet_of_same (lowI_c _ _ (by decide) (by decide) _)) | (go_at_call 22; exact Calls.quiet_of_same (whenI_c _ _ _))))
  replace c0 : (w'.drewN nq).cell? ⟨w.heap.size, 0, none⟩ = some (vI 36) := c0
  replace c1 : (w'.drewN nq).cell? ⟨w.heap.size, 1, none⟩ = some (vI 0) := c1
  replace c2 : (w'.drewN nq).cell? ⟨w.heap.size, 2, none⟩ = some (vI rd) := c2
  replace c3 : (w'.drewN nq).cell? ⟨w.heap.size, 3, none⟩ = some (vI rn) := c3
  replace c4 : (w'.drewN nq).cell? ⟨w.heap.size, 4, none⟩ = some (vI rm) := c4
  replace c5 : (w'.drewN nq).cell? ⟨w.heap.size, 5, none⟩ = some (vI ra) := c5
  replace c6 : (w'.drewN nq).cell? ⟨w.heap.size, 6, none⟩ = some (vI imm) := c6
  replace c7 : (w'.drewN nq).cell? ⟨w.heap.size, 7, none⟩ = some (vI imm2) := c7
  replace c8 : (w'.drewN nq).cell? ⟨w.heap.size, 8, none⟩ = some (vI amount) := c8
  replace c9 : (w'.drewN nq).cell? ⟨w.heap.size, 9, none⟩ = some (vI shift) := c9
  replace c10 : (w'.drewN nq).cell? ⟨w.heap.size, 10, none⟩ = some (vI cond) := c10
  replace c11 : (w'.drewN nq).cell? ⟨w.heap.size, 11, none⟩ = some (vI sys) := c11
  replace c12 : (w'.drewN nq).cell? ⟨w.heap.size, 12, none⟩ = some (.bool false) := c12
  replace c13 : (w'.drewN nq).cell? ⟨w.heap.size, 13, none⟩ = some (.bool minus) := c13
  replace c14 : (w'.drewN nq).cell? ⟨w.heap.size, 14, none⟩ = some (.bool not) := c14
  replace c15 : (w'.drewN nq).cell? ⟨w.heap.size, 15, none⟩ = some (.bool link) := c15
  replace HB : Hid (Below w.heap.size w (w'.drewN nq)) := below_drewN HB.out nq
  replace BX : (w'.drewN nq).heap[w.heap.size]? = some (.cells #[vI 36, vI 0, vI rd, vI rn, vI rm, vI ra, vI imm, vI imm2, vI amount, vI shift, vI cond, vI sys, .bool false, .bool minus, .bool not, .bool link] 25) := BX
  generalize w'.drewN nq = w2 at *
  go_wp2_with (first | (go_at_call 23; refine (ac36 _ _ _ _ _ _ _ _ _ _ _ _ _ _ _ _ _ _ _ (by omega) (by omega) (by omega) (by omega) (by omega) (by omega) (by omega) (by omega) _).mono ?_; rintro e w3 ⟨rfl, hb⟩; replace HB : Hid (Below w.heap.size w w3) := HB.out.trans (hb.mono HB.out.size); clear hb; dsimp only) | ((with_reducible refine wpList_load_if rfl 25 _ rfl w.heap.size rfl 25 _ (0, 0) _ BX Try.underlying25 rfl (infoK _ rfl) ?_); simp only [Act.put, List.setIfInBounds_toArray, List.set_cons_succ, List.set_cons_zero]))
  go_ret2
  refine ⟨ret_tw ?_, HB.out⟩
  rw [hE.out]
  clear hE HB c0 c1 c2 c3 c4 c5 c6 c7 c8 c9 c10 c11 c12 c13 c14 c15
  replace m0 := m0.out
  replace m1 := m1.out
  replace m2 := m2.out
  omega
set_option maxRecDepth 4000 in
set_option maxHeartbeats 8000000 in
theorem en37 (sub rd rn rm ra imm imm2 amount shift cond sys : Int) (minus not link : Bool) (w : World) (hr : rightB ⟨37, sub, rd, rn, rm, ra, imm, imm2, amount, shift, cond, sys, false, minus, not, link⟩ = true) :
    Calls Try.prog 12 #[(⟨37, sub, rd, rn, rm, ra, imm, imm2, amount, shift, cond, sys, false, minus, not, link⟩ : Ins).val] w fun e w' => e = .returned (.tuple #[.int .u32 (encV ⟨37, sub, rd, rn, rm, ra, imm, imm2, amount, shift, cond, sys, false, minus, not, link⟩).1, .bool true]) ∧ Below w.heap.size w w' := by
  have R := rightF hr
  obtain ⟨x0, y0, z0⟩ := holds_of (lo := 0) (hi := 5) (st := 1) (n := imm) R.imm
  clear z0
  obtain rfl : sub = 0 := zero_of R.sub
  have hE := (wd39 0 rd rn rm ra imm imm2 amount shift cond sys false minus not link hr).1
  replace hE := show Hid _ from hE
  have HC := rright_c ⟨37, 0, rd, rn, rm, ra, imm, imm2, amount, shift, cond, sys, false, minus, not, link⟩
  rw [hr] at HC
  replace HC := show Hid _ from HC
  clear R hr
  have BX := heap_alloc_new w (.cells #[vI 37, vI 0, vI rd, vI rn, vI rm, vI ra, vI imm, vI imm2, vI amount, vI shift, vI cond, vI sys, .bool false, .bool minus, .bool not, .bool link] 25)
  have HB := below_alloc w (.cells #[vI 37, vI 0, vI rd, vI rn, vI rm, vI ra, vI imm, vI imm2, vI amount, vI shift, vI cond, vI sys, .bool false, .bool minus, .bool not, .bool link] 25)
  have b0 : 0 ≤ lowI rd 5 ∧ lowI rd 5 < 32 := lowI_in _ 5
  have m0 : Hid (lowI rd 5 = rd % 32) := lowI_mod rd 5 (by decide)
  have b1 : 0 ≤ lowI rn 5 ∧ lowI rn 5 < 32 := lowI_in _ 5
  have m1 : Hid (lowI rn 5 = rn % 32) := lowI_mod rn 5 (by decide)
  have b2 : 0 ≤ lowI rm 5 ∧ lowI rm 5 < 32 := lowI_in _ 5
  have m2 : Hid (lowI rm 5 = rm % 32) := lowI_mod rm 5 (by decide)
  have v0 := when_in minus (x := 1073741824) (by decide)
  have e0 : whenI false 536870912 = 0 := rfl
  skip
  go_enter Try.func12, Try.ntmps12
  go_wp2_with (first | (go_at_call 20; refine (HC.out _).mono ?_; rintro e w1 ⟨rfl, hb⟩; replace BX : w1.heap[w.heap.size]? = some (.cells #[vI 37, vI 0, vI rd, vI rn, vI rm, vI ra, vI imm, vI imm2, vI amount, vI shift, vI cond, vI sys, .bool false, .bool minus, .bool not, .bool link] 25) := (hb.block _ (Array.getElem?_eq_some_iff.1 BX).1).trans BX; replace HB : Hid (Below w.heap.size w w1) := HB.trans (hb.mono HB.size); clear hb HC; dsimp only; have c0 := cell_in BX 0 (v := vI 37) rfl; have c1 := cell_in BX 1 (v := vI 0) rfl; have c2 := cell_in BX 2 (v := vI rd) rfl; have c3 := cell_in BX 3 (v := vI rn) rfl; have c4 := cell_in BX 4 (v := vI rm) rfl; have c5 := cell_in BX 5 (v := vI ra) rfl; have c6 := cell_in BX 6 (v := vI imm) rfl; have c7 := cell_in BX 7 (v := vI imm2) rfl; have c8 := cell_in BX 8 (v := vI amount) rfl; have c9 := cell_in BX 9 (v := vI shift) rfl; have c10 := cell_in BX 10 (v := vI cond) rfl; have c11 := cell_in BX 11 (v := vI sys) rfl; have c12 := cell_in BX 12 (v := .bool false) rfl; have c13 := cell_in BX 13 (v := .bool minus) rfl; have c14 := cell_in BX 14 (v := .bool not) rfl; have c15 := cell_in BX 15 (v := .bool link) rfl) | ((with_reducible refine wpList_load_if rfl 25 _ rfl w.heap.size rfl 25 _ (0, 0) _ BX Try.underlying25 rfl (infoK _ rfl) ?_); simp only [Act.put, List.setIfInBounds_toArray, List.set_cons_succ, List.set_cons_zero]) | (go_at_call 21; refine (lowI_c _ _ (by decide) (by decide) _).mono ?_; rintro e w' ⟨rfl, rfl⟩; dsimp only))
  go_quiet ((first | (go_at_call 21; exact Calls.quiet_of_same (lowI_c _ _ (by decide) (by decide) _)) | (go_at_call 22; exact Calls.quiet_of_same (whenI_c _ _ _))))
  replace c0 : (w'.drewN nq).cell? ⟨w.heap.size, 0, none⟩ = some (vI 37) := c0
  replace c1 : (w'.drewN nq).cell? ⟨w.heap.size, 1, none⟩ = some (vI 0) := c1
  replace c2 : (w'.drewN nq).cell? ⟨w.heap.size, 2, none⟩ = some (vI rd) := c2
  replace c3 : (w'.drewN nq).cell? ⟨w.heap.size, 3, none⟩ = some (vI rn) := c3
  replace c4 : (w'.drewN nq).cell? ⟨w.heap.size, 4, none⟩ = some (vI rm) := c4
  replace c5 : (w'.drewN nq).cell? ⟨w.heap.size, 5, none⟩ = some (vI ra) := c5
  replace c6 : (w'.drewN nq).cell? ⟨w.heap.size, 6, none⟩ = some (vI imm) := c6
  replace c7 : (w'.drewN nq).cell? ⟨w.heap.size, 7, none⟩ = some (vI imm2) := c7
  replace c8 : (w'.drewN nq).cell? ⟨w.heap.size, 8, none⟩ = some (vI amount) := c8
  replace c9 : (w'.drewN nq).cell? ⟨w.heap.size, 9, none⟩ = some (vI shift) := c9
  replace c10 : (w'.drewN nq).cell? ⟨w.heap.size, 10, none⟩ = some (vI cond) := c10
  replace c11 : (w'.drewN nq).cell? ⟨w.heap.size, 11, none⟩ = some (vI sys) := c11
  replace c12 : (w'.drewN nq).cell? ⟨w.heap.size, 12, none⟩ = some (.bool false) := c12
  replace c13 : (w'.drewN nq).cell? ⟨w.heap.size, 13, none⟩ = some (.bool minus) := c13
  replace c14 : (w'.drewN nq).cell? ⟨w.heap.size, 14, none⟩ = some (.bool not) := c14
  replace c15 : (w'.drewN nq).cell? ⟨w.heap.size, 15, none⟩ = some (.bool link) := c15
  replace HB : Hid (Below w.heap.size w (w'.drewN nq)) := below_drewN HB.out nq
  replace BX : (w'.drewN nq).heap[w.heap.size]? = some (.cells #[vI 37, vI 0, vI rd, vI rn, vI rm, vI ra, vI imm, vI imm2, vI amount, vI shift, vI cond, vI sys, .bool false, .bool minus, .bool not, .bool link] 25) := BX
  generalize w'.drewN nq = w2 at *
  go_wp2_with (first | (go_at_call 23; refine (ac37 _ _ _ _ _ _ _ _ _ _ _ _ _ _ _ _ _ _ _ (by omega) (by omega) (by omega) (by omega) (by omega) (by omega) (by omega) (by omega) (by omega) (by omega) _).mono ?_; rintro e w3 ⟨rfl, hb⟩; replace HB : Hid (Below w.heap.size w w3) := HB.out.trans (hb.mono HB.out.size); clear hb; dsimp only) | ((with_reducible refine wpList_load_if rfl 25 _ rfl w.heap.size rfl 25 _ (0, 0) _ BX Try.underlying25 rfl (infoK _ rfl) ?_); simp only [Act.put, List.setIfInBounds_toArray, List.set_cons_succ, List.set_cons_zero]))
  go_ret2
  refine ⟨ret_tw ?_, HB.out⟩
  rw [hE.out]
  clear hE HB c0 c1 c2 c3 c4 c5 c6 c7 c8 c9 c10 c11 c12 c13 c14 c15
  replace m0 := m0.out
  replace m1 := m1.out
  replace m2 := m2.out
  omega
end Go.Proofs.Ytcmilajlngnibaa
