/- Encode of the document's own answer to chapter 3: contracts, an Op each. -/
import Derived.Test.YtcmilajlngnibaaK26
namespace Go.Proofs.Ytcmilajlngnibaa
open Go.RowKit Go.Rel
set_option linter.unusedVariables false
set_option linter.unusedSimpArgs false

set_option maxRecDepth 4000 in
set_option maxHeartbeats 8000000 in
theorem en17 (sub rd rn rm ra imm imm2 amount shift cond sys : Int) (minus not link : Bool) (w : World) (hr : rightB ⟨17, sub, rd, rn, rm, ra, imm, imm2, amount, shift, cond, sys, false, minus, not, link⟩ = true) :
    Calls Try.prog 12 #[(⟨17, sub, rd, rn, rm, ra, imm, imm2, amount, shift, cond, sys, false, minus, not, link⟩ : Ins).val] w fun e w' => e = .returned (.tuple #[.int .u32 (encV ⟨17, sub, rd, rn, rm, ra, imm, imm2, amount, shift, cond, sys, false, minus, not, link⟩).1, .bool true]) ∧ Below w.heap.size w w' := by
  have R := rightF hr
  obtain ⟨x0, y0, z0⟩ := holds_of (lo := 0) (hi := 32760) (st := 8) (n := imm) R.imm
  clear z0
  obtain rfl : sub = 0 := zero_of R.sub
  have hE := (wd16 0 rd rn rm ra imm imm2 amount shift cond sys false minus not link hr).1
  have nn0 : imm.tdiv 8 = imm / 8 := Int.tdiv_eq_ediv_of_nonneg (by omega)
  rw [nn0] at hE
  clear nn0
  replace hE := show Hid _ from hE
  have HC := rright_c ⟨17, 0, rd, rn, rm, ra, imm, imm2, amount, shift, cond, sys, false, minus, not, link⟩
  rw [hr] at HC
  replace HC := show Hid _ from HC
  clear R hr
  have BX := heap_alloc_new w (.cells #[vI 17, vI 0, vI rd, vI rn, vI rm, vI ra, vI imm, vI imm2, vI amount, vI shift, vI cond, vI sys, .bool false, .bool minus, .bool not, .bool link] 25)
  have HB := below_alloc w (.cells #[vI 17, vI 0, vI rd, vI rn, vI rm, vI ra, vI imm, vI imm2, vI amount, vI shift, vI cond, vI sys, .bool false, .bool minus, .bool not, .bool link] 25)
  have b0 : 0 ≤ lowI rd 5 ∧ lowI rd 5 < 32 := lowI_in _ 5
  have m0 : Hid (lowI rd 5 = rd % 32) := lowI_mod rd 5 (by decide)
  have b1 : 0 ≤ lowI rn 5 ∧ lowI rn 5 < 32 := lowI_in _ 5
  have m1 : Hid (lowI rn 5 = rn % 32) := lowI_mod rn 5 (by decide)
  have b2 : 0 ≤ lowI rm 5 ∧ lowI rm 5 < 32 := lowI_in _ 5
  have m2 : Hid (lowI rm 5 = rm % 32) := lowI_mod rm 5 (by decide)
  have b3 : 0 ≤ lowI (imm / 8) 12 ∧ lowI (imm / 8) 12 < 4096 := lowI_in _ 12
  have m3 : Hid (lowI (imm / 8) 12 = (imm / 8) % 4096) := lowI_mod (imm / 8) 12 (by decide)
  have v0 := when_in minus (x := 1073741824) (by decide)
  have e0 : whenI false 536870912 = 0 := rfl
  skip
  go_enter Try.func12, Try.ntmps12
  go_wp2_with (first | (go_at_call 20; refine (HC.out _).mono ?_; rintro e w1 ⟨rfl, hb⟩; replace BX : w1.heap[w.heap.size]? = some (.cells #[vI 17, vI 0, vI rd, vI rn, vI rm, vI ra, vI imm, vI imm2, vI amount, vI shift, vI cond, vI sys, .bool false, .bool minus, .bool not, .bool link] 25) := (hb.block _ (Array.getElem?_eq_some_iff.1 BX).1).trans BX; replace HB : Hid (Below w.heap.size w w1) := HB.trans (hb.mono HB.size); clear hb HC; dsimp only; have c0 := cell_in BX 0 (v := vI 17) rfl; have c1 := cell_in BX 1 (v := vI 0) rfl; have c2 := cell_in BX 2 (v := vI rd) rfl; have c3 := cell_in BX 3 (v := vI rn) rfl; have c4 := cell_in BX 4 (v := vI rm) rfl; have c5 := cell_in BX 5 (v := vI ra) rfl; have c6 := cell_in BX 6 (v := vI imm) rfl; have c7 := cell_in BX 7 (v := vI imm2) rfl; have c8 := cell_in BX 8 (v := vI amount) rfl; have c9 := cell_in BX 9 (v := vI shift) rfl; have c10 := cell_in BX 10 (v := vI cond) rfl; have c11 := cell_in BX 11 (v := vI sys) rfl; have c12 := cell_in BX 12 (v := .bool false) rfl; have c13 := cell_in BX 13 (v := .bool minus) rfl; have c14 := cell_in BX 14 (v := .bool not) rfl; have c15 := cell_in BX 15 (v := .bool link) rfl) | ((with_reducible refine wpList_load_if rfl 25 _ rfl w.heap.size rfl 25 _ (0, 0) _ BX Try.underlying25 rfl (infoK _ rfl) ?_); simp only [Act.put, List.setIfInBounds_toArray, List.set_cons_succ, List.set_cons_zero]) | (go_at_call 21; refine (lowI_c _ _ (by decide) (by decide) _).mono ?_; rintro e w' ⟨rfl, rfl⟩; dsimp only))
  go_quiet ((first | (go_at_call 21; exact Calls.quiet_of_same (lowI_c _ _ (by decide) (by decide) _)) | (go_at_call 22; exact Calls.quiet_of_same (whenI_c _ _ _))))
  replace c0 : (w'.drewN nq).cell? ⟨w.heap.size, 0, none⟩ = some (vI 17) := c0
  replace c1 : (w'.drewN nq).cell? ⟨w.heap.size, 1, none⟩ = some (vI 0) := c1
  replace c2 : (w'.drewN nq).cell? ⟨w.heap.size, 2, none⟩ = some (vI rd) := c2
  replace c3 : (w'.drewN nq).cell? ⟨w.heap.size, 3, none⟩ = some (vI rn) := c3
  replace c4 : (w'.drewN nq).cell? ⟨w.heap.size, 4, none⟩ = some (vI rm) := c4
  replace c5 : (w'.drewN nq).cell? ⟨w.heap.size, 5, none⟩ = some (vI ra) := c5
  replace c6 : (w'.drewN nq).cell? ⟨w.heap.size, 6, none⟩ = some (vI imm) := c6
  replace c7 : (w'.drewN nq).cell? ⟨w.heap.size, 7, none⟩ = some (vI imm2) := c7
  replace c8 : (w'.drewN nq).cell? ⟨w.heap.size, 8, none⟩ = some (vI amount) := c8
  replace c9 : (w'.drewN nq).cell? ⟨w.heap.size, 9, none⟩ = some (vI shift) := c9
  replace c10 : (w'.drewN nq).cell? ⟨w.heap.size, 10, none⟩ = some (vI cond) := c10
  replace c11 : (w'.drewN nq).cell? ⟨w.heap.size, 11, none⟩ = some (vI sys) := c11
  replace c12 : (w'.drewN nq).cell? ⟨w.heap.size, 12, none⟩ = some (.bool false) := c12
  replace c13 : (w'.drewN nq).cell? ⟨w.heap.size, 13, none⟩ = some (.bool minus) := c13
  replace c14 : (w'.drewN nq).cell? ⟨w.heap.size, 14, none⟩ = some (.bool not) := c14
  replace c15 : (w'.drewN nq).cell? ⟨w.heap.size, 15, none⟩ = some (.bool link) := c15
  replace HB : Hid (Below w.heap.size w (w'.drewN nq)) := below_drewN HB.out nq
  replace BX : (w'.drewN nq).heap[w.heap.size]? = some (.cells #[vI 17, vI 0, vI rd, vI rn, vI rm, vI ra, vI imm, vI imm2, vI amount, vI shift, vI cond, vI sys, .bool false, .bool minus, .bool not, .bool link] 25) := BX
  generalize w'.drewN nq = w2 at *
  go_wp2_with (first | (go_at_call 23; refine (ac17 _ _ _ _ _ _ _ _ _ _ _ _ _ _ _ _ _ _ _ (by omega) (by omega) (by omega) (by omega) (by omega) (by omega) (by omega) (by omega) (by omega) (by omega) _).mono ?_; rintro e w3 ⟨rfl, hb⟩; replace HB : Hid (Below w.heap.size w w3) := HB.out.trans (hb.mono HB.out.size); clear hb; dsimp only) | ((with_reducible refine wpList_load_if rfl 25 _ rfl w.heap.size rfl 25 _ (0, 0) _ BX Try.underlying25 rfl (infoK _ rfl) ?_); simp only [Act.put, List.setIfInBounds_toArray, List.set_cons_succ, List.set_cons_zero]))
  go_ret2
  refine ⟨ret_tw ?_, HB.out⟩
  rw [hE.out]
  clear hE HB c0 c1 c2 c3 c4 c5 c6 c7 c8 c9 c10 c11 c12 c13 c14 c15
  replace m0 := m0.out
  replace m1 := m1.out
  replace m2 := m2.out
  replace m3 := m3.out
  omega
set_option maxRecDepth 4000 in
set_option maxHeartbeats 8000000 in
theorem en18 (sub rd rn rm ra imm imm2 amount shift cond sys : Int) (minus not link : Bool) (w : World) (hr : rightB ⟨18, sub, rd, rn, rm, ra, imm, imm2, amount, shift, cond, sys, false, minus, not, link⟩ = true) :
    Calls Try.prog 12 #[(⟨18, sub, rd, rn, rm, ra, imm, imm2, amount, shift, cond, sys, false, minus, not, link⟩ : Ins).val] w fun e w' => e = .returned (.tuple #[.int .u32 (encV ⟨18, sub, rd, rn, rm, ra, imm, imm2, amount, shift, cond, sys, false, minus, not, link⟩).1, .bool true]) ∧ Below w.heap.size w w' := by
  have R := rightF hr
  obtain ⟨x0, y0, z0⟩ := holds_of (lo := 0) (hi := 32760) (st := 8) (n := imm) R.imm
  clear z0
  obtain rfl : sub = 0 := zero_of R.sub
  have hE := (wd17 0 rd rn rm ra imm imm2 amount shift cond sys false minus not link hr).1
  have nn0 : imm.tdiv 8 = imm / 8 := Int.tdiv_eq_ediv_of_nonneg (by omega)
  rw [nn0] at hE
  clear nn0
  replace hE := show Hid _ from hE
  have HC := rright_c ⟨18, 0, rd, rn, rm, ra, imm, imm2, amount, shift, cond, sys, false, minus, not, link⟩
  rw [hr] at HC
  replace HC := show Hid _ from HC
  clear R hr
  have BX := heap_alloc_new w (.cells #[vI 18, vI 0, vI rd, vI rn, vI rm, vI ra, vI imm, vI imm2, vI amount, vI shift, vI cond, vI sys, .bool false, .bool minus, .bool not, .bool link] 25)
  have HB := below_alloc w (.cells #[vI 18, vI 0, vI rd, vI rn, vI rm, vI ra, vI imm, vI imm2, vI amount, vI shift, vI cond, vI sys, .bool false, .bool minus, .bool not, .bool link] 25)
  have b0 : 0 ≤ lowI rd 5 ∧ lowI rd 5 < 32 := lowI_in _ 5
  have m0 : Hid (lowI rd 5 = rd % 32) := lowI_mod rd 5 (by decide)
  have b1 : 0 ≤ lowI rn 5 ∧ lowI rn 5 < 32 := lowI_in _ 5
  have m1 : Hid (lowI rn 5 = rn % 32) := lowI_mod rn 5 (by decide)
  have b2 : 0 ≤ lowI rm 5 ∧ lowI rm 5 < 32 := lowI_in _ 5
  have m2 : Hid (lowI rm 5 = rm % 32) := lowI_mod rm 5 (by decide)
  have b3 : 0 ≤ lowI (imm / 8) 12 ∧ lowI (imm / 8) 12 < 4096 := lowI_in _ 12
  have m3 : Hid (lowI (imm / 8) 12 = (imm / 8) % 4096) := lowI_mod (imm / 8) 12 (by decide)
  have v0 := when_in minus (x := 1073741824) (by decide)
  have e0 : whenI false 536870912 = 0 := rfl
  skip
  go_enter Try.func12, Try.ntmps12
  go_wp2_with (first | (go_at_call 20; refine (HC.out _).mono ?_; rintro e w1 ⟨rfl, hb⟩; replace BX : w1.heap[w.heap.size]? = some (.cells #[vI 18, vI 0, vI rd, vI rn, vI rm, vI ra, vI imm, vI imm2, vI amount, vI shift, vI cond, vI sys, .bool false, .bool minus, .bool not, .bool link] 25) := (hb.block _ (Array.getElem?_eq_some_iff.1 BX).1).trans BX; replace HB : Hid (Below w.heap.size w w1) := HB.trans (hb.mono HB.size); clear hb HC; dsimp only; have c0 := cell_in BX 0 (v := vI 18) rfl; have c1 := cell_in BX 1 (v := vI 0) rfl; have c2 := cell_in BX 2 (v := vI rd) rfl; have c3 := cell_in BX 3 (v := vI rn) rfl; have c4 := cell_in BX 4 (v := vI rm) rfl; have c5 := cell_in BX 5 (v := vI ra) rfl; have c6 := cell_in BX 6 (v := vI imm) rfl; have c7 := cell_in BX 7 (v := vI imm2) rfl; have c8 := cell_in BX 8 (v := vI amount) rfl; have c9 := cell_in BX 9 (v := vI shift) rfl; have c10 := cell_in BX 10 (v := vI cond) rfl; have c11 := cell_in BX 11 (v := vI sys) rfl; have c12 := cell_in BX 12 (v := .bool false) rfl; have c13 := cell_in BX 13 (v := .bool minus) rfl; have c14 := cell_in BX 14 (v := .bool not) rfl; have c15 := cell_in BX 15 (v := .bool link) rfl) | ((with_reducible refine wpList_load_if rfl 25 _ rfl w.heap.size rfl 25 _ (0, 0) _ BX Try.underlying25 rfl (infoK _ rfl) ?_); simp only [Act.put, List.setIfInBounds_toArray, List.set_cons_succ, List.set_cons_zero]) | (go_at_call 21; refine (lowI_c _ _ (by decide) (by decide) _).mono ?_; rintro e w' ⟨rfl, rfl⟩; dsimp only))
  go_quiet ((first | (go_at_call 21; exact Calls.quiet_of_same (lowI_c _ _ (by decide) (by decide) _)) | (go_at_call 22; exact Calls.quiet_of_same (whenI_c _ _ _))))
  replace c0 : (w'.drewN nq).cell? ⟨w.heap.size, 0, none⟩ = some (vI 18) := c0
  replace c1 : (w'.drewN nq).cell? ⟨w.heap.size, 1, none⟩ = some (vI 0) := c1
  replace c2 : (w'.drewN nq).cell? ⟨w.heap.size, 2, none⟩ = some (vI rd) := c2
  replace c3 : (w'.drewN nq).cell? ⟨w.heap.size, 3, none⟩ = some (vI rn) := c3
  replace c4 : (w'.drewN nq).cell? ⟨w.heap.size, 4, none⟩ = some (vI rm) := c4
  replace c5 : (w'.drewN nq).cell? ⟨w.heap.size, 5, none⟩ = some (vI ra) := c5
  replace c6 : (w'.drewN nq).cell? ⟨w.heap.size, 6, none⟩ = some (vI imm) := c6
  replace c7 : (w'.drewN nq).cell? ⟨w.heap.size, 7, none⟩ = some (vI imm2) := c7
  replace c8 : (w'.drewN nq).cell? ⟨w.heap.size, 8, none⟩ = some (vI amount) := c8
  replace c9 : (w'.drewN nq).cell? ⟨w.heap.size, 9, none⟩ = some (vI shift) := c9
  replace c10 : (w'.drewN nq).cell? ⟨w.heap.size, 10, none⟩ = some (vI cond) := c10
  replace c11 : (w'.drewN nq).cell? ⟨w.heap.size, 11, none⟩ = some (vI sys) := c11
  replace c12 : (w'.drewN nq).cell? ⟨w.heap.size, 12, none⟩ = some (.bool false) := c12
  replace c13 : (w'.drewN nq).cell? ⟨w.heap.size, 13, none⟩ = some (.bool minus) := c13
  replace c14 : (w'.drewN nq).cell? ⟨w.heap.size, 14, none⟩ = some (.bool not) := c14
  replace c15 : (w'.drewN nq).cell? ⟨w.heap.size, 15, none⟩ = some (.bool link) := c15
  replace HB : Hid (Below w.heap.size w (w'.drewN nq)) := below_drewN HB.out nq
  replace BX : (w'.drewN nq).heap[w.heap.size]? = some (.cells #[vI 18, vI 0, vI rd, vI rn, vI rm, vI ra, vI imm, vI imm2, vI amount, vI shift, vI cond, vI sys, .bool false, .bool minus, .bool not, .bool link] 25) := BX
  generalize w'.drewN nq = w2 at *
  go_wp2_with (first | (go_at_call 23; refine (ac18 _ _ _ _ _ _ _ _ _ _ _ _ _ _ _ _ _ _ _ (by omega) (by omega) (by omega) (by omega) (by omega) (by omega) (by omega) (by omega) (by omega) (by omega) _).mono ?_; rintro e w3 ⟨rfl, hb⟩; replace HB : Hid (Below w.heap.size w w3) := HB.out.trans (hb.mono HB.out.size); clear hb; dsimp only) | ((with_reducible refine wpList_load_if rfl 25 _ rfl w.heap.size rfl 25 _ (0, 0) _ BX Try.underlying25 rfl (infoK _ rfl) ?_); simp only [Act.put, List.setIfInBounds_toArray, List.set_cons_succ, List.set_cons_zero]))
  go_ret2
  refine ⟨ret_tw ?_, HB.out⟩
  rw [hE.out]
  clear hE HB c0 c1 c2 c3 c4 c5 c6 c7 c8 c9 c10 c11 c12 c13 c14 c15
  replace m0 := m0.out
  replace m1 := m1.out
  replace m2 := m2.out
  replace m3 := m3.out
  omega
set_option maxRecDepth 4000 in
set_option maxHeartbeats 8000000 in
theorem en19 (sub rd rn rm ra imm imm2 amount shift cond sys : Int) (minus not link : Bool) (w : World) (hr : rightB ⟨19, sub, rd, rn, rm, ra, imm, imm2, amount, shift, cond, sys, false, minus, not, link⟩ = true) :
    Calls Try.prog 12 #[(⟨19, sub, rd, rn, rm, ra, imm, imm2, amount, shift, cond, sys, false, minus, not, link⟩ : Ins).val] w fun e w' => e = .returned (.tuple #[.int .u32 (encV ⟨19, sub, rd, rn, rm, ra, imm, imm2, amount, shift, cond, sys, false, minus, not, link⟩).1, .bool true]) ∧ Below w.heap.size w w' := by
  have R := rightF hr
  obtain ⟨x0, y0, z0⟩ := holds_of (lo := 0) (hi := 3) (st := 3) (n := amount) R.amount
  replace z0 := show Hid _ from z0
  obtain rfl : sub = 0 := zero_of R.sub
  have hE := (wd18 0 rd rn rm ra imm imm2 amount shift cond sys false minus not link hr).1
  have hw : whenI (amount == 3) 4096 = amount.tdiv 3 % 2 * 4096 := when_three z0.out (by omega) (by omega)
  replace hE := show Hid _ from hE
  have HC := rright_c ⟨19, 0, rd, rn, rm, ra, imm, imm2, amount, shift, cond, sys, false, minus, not, link⟩
  rw [hr] at HC
  replace HC := show Hid _ from HC
  clear R hr
  have BX := heap_alloc_new w (.cells #[vI 19, vI 0, vI rd, vI rn, vI rm, vI ra, vI imm, vI imm2, vI amount, vI shift, vI cond, vI sys, .bool false, .bool minus, .bool not, .bool link] 25)
  have HB := below_alloc w (.cells #[vI 19, vI 0, vI rd, vI rn, vI rm, vI ra, vI imm, vI imm2, vI amount, vI shift, vI cond, vI sys, .bool false, .bool minus, .bool not, .bool link] 25)
  have b0 : 0 ≤ lowI rd 5 ∧ lowI rd 5 < 32 := lowI_in _ 5
  have m0 : Hid (lowI rd 5 = rd % 32) := lowI_mod rd 5 (by decide)
  have b1 : 0 ≤ lowI rn 5 ∧ lowI rn 5 < 32 := lowI_in _ 5
  have m1 : Hid (lowI rn 5 = rn % 32) := lowI_mod rn 5 (by decide)
  have b2 : 0 ≤ lowI rm 5 ∧ lowI rm 5 < 32 := lowI_in _ 5
  have m2 : Hid (lowI rm 5 = rm % 32) := lowI_mod rm 5 (by decide)
  have v0 := when_in minus (x := 1073741824) (by decide)
  have v1 := when_in (amount == 3) (x := 4096) (by decide)
  have e0 : whenI false 536870912 = 0 := rfl
  skip
  go_enter Try.func12, Try.ntmps12
  go_wp2_with (first | (go_at_call 20; refine (HC.out _).mono ?_; rintro e w1 ⟨rfl, hb⟩; replace BX : w1.heap[w.heap.size]? = some (.cells #[vI 19, vI 0, vI rd, vI rn, vI rm, vI ra, vI imm, vI imm2, vI amount, vI shift, vI cond, vI sys, .bool false, .bool minus, .bool not, .bool link] 25) := (hb.block _ (Array.getElem?_eq_some_iff.1 BX).1).trans BX; replace HB : Hid (Below w.heap.size w w1) := HB.trans (hb.mono HB.size); clear hb HC; dsimp only; have c0 := cell_in BX 0 (v := vI 19) rfl; have c1 := cell_in BX 1 (v := vI 0) rfl; have c2 := cell_in BX 2 (v := vI rd) rfl; have c3 := cell_in BX 3 (v := vI rn) rfl; have c4 := cell_in BX 4 (v := vI rm) rfl; have c5 := cell_in BX 5 (v := vI ra) rfl; have c6 := cell_in BX 6 (v := vI imm) rfl; have c7 := cell_in BX 7 (v := vI imm2) rfl; have c8 := cell_in BX 8 (v := vI amount) rfl; have c9 := cell_in BX 9 (v := vI shift) rfl; have c10 := cell_in BX 10 (v := vI cond) rfl; have c11 := cell_in BX 11 (v := vI sys) rfl; have c12 := cell_in BX 12 (v := .bool false) rfl; have c13 := cell_in BX 13 (v := .bool minus) rfl; have c14 := cell_in BX 14 (v := .bool not) rfl; have c15 := cell_in BX 15 (v := .bool link) rfl) | ((with_reducible refine wpList_load_if rfl 25 _ rfl w.heap.size rfl 25 _ (0, 0) _ BX Try.underlying25 rfl (infoK _ rfl) ?_); simp only [Act.put, List.setIfInBounds_toArray, List.set_cons_succ, List.set_cons_zero]) | (go_at_call 21; refine (lowI_c _ _ (by decide) (by decide) _).mono ?_; rintro e w' ⟨rfl, rfl⟩; dsimp only))
  go_quiet ((first | (go_at_call 21; exact Calls.quiet_of_same (lowI_c _ _ (by decide) (by decide) _)) | (go_at_call 22; exact Calls.quiet_of_same (whenI_c _ _ _))))
  replace c0 : (w'.drewN nq).cell? ⟨w.heap.size, 0, none⟩ = some (vI 19) := c0
  replace c1 : (w'.drewN nq).cell? ⟨w.heap.size, 1, none⟩ = some (vI 0) := c1
  replace c2 : (w'.drewN nq).cell? ⟨w.heap.size, 2, none⟩ = some (vI rd) := c2
  replace c3 : (w'.drewN nq).cell? ⟨w.heap.size, 3, none⟩ = some (vI rn) := c3
  replace c4 : (w'.drewN nq).cell? ⟨w.heap.size, 4, none⟩ = some (vI rm) := c4
  replace c5 : (w'.drewN nq).cell? ⟨w.heap.size, 5, none⟩ = some (vI ra) := c5
  replace c6 : (w'.drewN nq).cell? ⟨w.heap.size, 6, none⟩ = some (vI imm) := c6
  replace c7 : (w'.drewN nq).cell? ⟨w.heap.size, 7, none⟩ = some (vI imm2) := c7
  replace c8 : (w'.drewN nq).cell? ⟨w.heap.size, 8, none⟩ = some (vI amount) := c8
  replace c9 : (w'.drewN nq).cell? ⟨w.heap.size, 9, none⟩ = some (vI shift) := c9
  replace c10 : (w'.drewN nq).cell? ⟨w.heap.size, 10, none⟩ = some (vI cond) := c10
  replace c11 : (w'.drewN nq).cell? ⟨w.heap.size, 11, none⟩ = some (vI sys) := c11
  replace c12 : (w'.drewN nq).cell? ⟨w.heap.size, 12, none⟩ = some (.bool false) := c12
  replace c13 : (w'.drewN nq).cell? ⟨w.heap.size, 13, none⟩ = some (.bool minus) := c13
  replace c14 : (w'.drewN nq).cell? ⟨w.heap.size, 14, none⟩ = some (.bool not) := c14
  replace c15 : (w'.drewN nq).cell? ⟨w.heap.size, 15, none⟩ = some (.bool link) := c15
  replace HB : Hid (Below w.heap.size w (w'.drewN nq)) := below_drewN HB.out nq
  replace BX : (w'.drewN nq).heap[w.heap.size]? = some (.cells #[vI 19, vI 0, vI rd, vI rn, vI rm, vI ra, vI imm, vI imm2, vI amount, vI shift, vI cond, vI sys, .bool false, .bool minus, .bool not, .bool link] 25) := BX
  generalize w'.drewN nq = w2 at *
  go_wp2_with (first | (go_at_call 23; refine (ac19 _ _ _ _ _ _ _ _ _ _ _ _ _ _ _ _ _ _ _ (by omega) (by omega) (by omega) (by omega) (by omega) (by omega) (by omega) (by omega) (by omega) (by omega) _).mono ?_; rintro e w3 ⟨rfl, hb⟩; replace HB : Hid (Below w.heap.size w w3) := HB.out.trans (hb.mono HB.out.size); clear hb; dsimp only) | ((with_reducible refine wpList_load_if rfl 25 _ rfl w.heap.size rfl 25 _ (0, 0) _ BX Try.underlying25 rfl (infoK _ rfl) ?_); simp only [Act.put, List.setIfInBounds_toArray, List.set_cons_succ, List.set_cons_zero]))
  go_ret2
  refine ⟨ret_tw ?_, HB.out⟩
  rw [hE.out]
  clear hE HB c0 c1 c2 c3 c4 c5 c6 c7 c8 c9 c10 c11 c12 c13 c14 c15
  replace m0 := m0.out
  replace m1 := m1.out
  replace m2 := m2.out
  omega
set_option maxRecDepth 4000 in
set_option maxHeartbeats 8000000 in
theorem en20 (sub rd rn rm ra imm imm2 amount shift cond sys : Int) (minus not link : Bool) (w : World) (hr : rightB ⟨20, sub, rd, rn, rm, ra, imm, imm2, amount, shift, cond, sys, false, minus, not, link⟩ = true) :
    Calls Try.prog 12 #[(⟨20, sub, rd, rn, rm, ra, imm, imm2, amount, shift, cond, sys, false, minus, not, link⟩ : Ins).val] w fun e w' => e = .returned (.tuple #[.int .u32 (encV ⟨20, sub, rd, rn, rm, ra, imm, imm2, amount, shift, cond, sys, false, minus, not, link⟩).1, .bool true]) ∧ Below w.heap.size w w' := by
  have R := rightF hr
  obtain ⟨x0, y0, z0⟩ := holds_of (lo := 0) (hi := 3) (st := 3) (n := amount) R.amount
  replace z0 := show Hid _ from z0
  obtain rfl : sub = 0 := zero_of R.sub
  have hE := (wd19 0 rd rn rm ra imm imm2 amount shift cond sys false minus not link hr).1
  have hw : whenI (amount == 3) 4096 = amount.tdiv 3 % 2 * 4096 := when_three z0.out (by omega) (by omega)
  replace hE := show Hid _ from hE
  have HC := rright_c ⟨20, 0, rd, rn, rm, ra, imm, imm2, amount, shift, cond, sys, false, minus, not, link⟩
  rw [hr] at HC
  replace HC := show Hid _ from HC
  clear R hr
  have BX := heap_alloc_new w (.cells #[vI 20, vI 0, vI rd, vI rn, vI rm, vI ra, vI imm, vI imm2, vI amount, vI shift, vI cond, vI sys, .bool false, .bool minus, .bool not, .bool link] 25)
  have HB := below_alloc w (.cells #[vI 20, vI 0, vI rd, vI rn, vI rm, vI ra, vI imm, vI imm2, vI amount, vI shift, vI cond, vI sys, .bool false, .bool minus, .bool not, .bool link] 25)
  have b0 : 0 ≤ lowI rd 5 ∧ lowI rd 5 < 32 := lowI_in _ 5
  have m0 : Hid (lowI rd 5 = rd % 32) := lowI_mod rd 5 (by decide)
  have b1 : 0 ≤ lowI rn 5 ∧ lowI rn 5 < 32 := lowI_in _ 5
  have m1 : Hid (lowI rn 5 = rn % 32) := lowI_mod rn 5 (by decide)
  have b2 : 0 ≤ lowI rm 5 ∧ lowI rm 5 < 32 := lowI_in _ 5
  have m2 : Hid (lowI rm 5 = rm % 32) := lowI_mod rm 5 (by decide)
  have v0 := when_in minus (x := 1073741824) (by decide)
  have v1 := when_in (amount == 3) (x := 4096) (by decide)
  have e0 : whenI false 536870912 = 0 := rfl
  skip
  go_enter Try.func12, Try.ntmps12
  go_wp2_with (first | (go_at_call 20; refine (HC.out _).mono ?_; rintro e w1 ⟨rfl, hb⟩; replace BX : w1.heap[w.heap.size]? = some (.cells #[vI 20, vI 0, vI rd, vI rn, vI rm, vI ra, vI imm, vI imm2, vI amount, vI shift, vI cond, vI sys, .bool false, .bool minus, .bool not, .bool link] 25) := (hb.block _ (Array.getElem?_eq_some_iff.1 BX).1).trans BX; replace HB : Hid (Below w.heap.size w w1) := HB.trans (hb.mono HB.size); clear hb HC; dsimp only; have c0 := cell_in BX 0 (v := vI 20) rfl; have c1 := cell_in BX 1 (v := vI 0) rfl; have c2 := cell_in BX 2 (v := vI rd) rfl; have c3 := cell_in BX 3 (v := vI rn) rfl; have c4 := cell_in BX 4 (v := vI rm) rfl; have c5 := cell_in BX 5 (v := vI ra) rfl; have c6 := cell_in BX 6 (v := vI imm) rfl; have c7 := cell_in BX 7 (v := vI imm2) rfl; have c8 := cell_in BX 8 (v := vI amount) rfl; have c9 := cell_in BX 9 (v := vI shift) rfl; have c10 := cell_in BX 10 (v := vI cond) rfl; have c11 := cell_in BX 11 (v := vI sys) rfl; have c12 := cell_in BX 12 (v := .bool false) rfl; have c13 := cell_in BX 13 (v := .bool minus) rfl; have c14 := cell_in BX 14 (v := .bool not) rfl; have c15 := cell_in BX 15 (v := .bool link) rfl) | ((with_reducible refine wpList_load_if rfl 25 _ rfl w.heap.size rfl 25 _ (0, 0) _ BX Try.underlying25 rfl (infoK _ rfl) ?_); simp only [Act.put, List.setIfInBounds_toArray, List.set_cons_succ, List.set_cons_zero]) | (go_at_call 21; refine (lowI_c _ _ (by decide) (by decide) _).mono ?_; rintro e w' ⟨rfl, rfl⟩; dsimp only))
  go_quiet ((first | (go_at_call 21; exact Calls.quiet_of_same (lowI_c _ _ (by decide) (by decide) _)) | (go_at_call 22; exact Calls.quiet_of_same (whenI_c _ _ _))))
  replace c0 : (w'.drewN nq).cell? ⟨w.heap.size, 0, none⟩ = some (vI 20) := c0
  replace c1 : (w'.drewN nq).cell? ⟨w.heap.size, 1, none⟩ = some (vI 0) := c1
  replace c2 : (w'.drewN nq).cell? ⟨w.heap.size, 2, none⟩ = some (vI rd) := c2
  replace c3 : (w'.drewN nq).cell? ⟨w.heap.size, 3, none⟩ = some (vI rn) := c3
  replace c4 : (w'.drewN nq).cell? ⟨w.heap.size, 4, none⟩ = some (vI rm) := c4
  replace c5 : (w'.drewN nq).cell? ⟨w.heap.size, 5, none⟩ = some (vI ra) := c5
  replace c6 : (w'.drewN nq).cell? ⟨w.heap.size, 6, none⟩ = some (vI imm) := c6
  replace c7 : (w'.drewN nq).cell? ⟨w.heap.size, 7, none⟩ = some (vI imm2) := c7
  replace c8 : (w'.drewN nq).cell? ⟨w.heap.size, 8, none⟩ = some (vI amount) := c8
  replace c9 : (w'.drewN nq).cell? ⟨w.heap.size, 9, none⟩ = some (vI shift) := c9
  replace c10 : (w'.drewN nq).cell? ⟨w.heap.size, 10, none⟩ = some (vI cond) := c10
  replace c11 : (w'.drewN nq).cell? ⟨w.heap.size, 11, none⟩ = some (vI sys) := c11
  replace c12 : (w'.drewN nq).cell? ⟨w.heap.size, 12, none⟩ = some (.bool false) := c12
  replace c13 : (w'.drewN nq).cell? ⟨w.heap.size, 13, none⟩ = some (.bool minus) := c13
  replace c14 : (w'.drewN nq).cell? ⟨w.heap.size, 14, none⟩ = some (.bool not) := c14
  replace c15 : (w'.drewN nq).cell? ⟨w.heap.size, 15, none⟩ = some (.bool link) := c15
  replace HB : Hid (Below w.heap.size w (w'.drewN nq)) := below_drewN HB.out nq
  replace BX : (w'.drewN nq).heap[w.heap.size]? = some (.cells #[vI 20, vI 0, vI rd, vI rn, vI rm, vI ra, vI imm, vI imm2, vI amount, vI shift, vI cond, vI sys, .bool false, .bool minus, .bool not, .bool link] 25) := BX
  generalize w'.drewN nq = w2 at *
  go_wp2_with (first | (go_at_call 23; refine (ac20 _ _ _ _ _ _ _ _ _ _ _ _ _ _ _ _ _ _ _ (by omega) (by omega) (by omega) (by omega) (by omega) (by omega) (by omega) (by omega) (by omega) (by omega) _).mono ?_; rintro e w3 ⟨rfl, hb⟩; replace HB : Hid (Below w.heap.size w w3) := HB.out.trans (hb.mono HB.out.size); clear hb; dsimp only) | ((with_reducible refine wpList_load_if rfl 25 _ rfl w.heap.size rfl 25 _ (0, 0) _ BX Try.underlying25 rfl (infoK _ rfl) ?_); simp only [Act.put, List.setIfInBounds_toArray, List.set_cons_succ, List.set_cons_zero]))
  go_ret2
  refine ⟨ret_tw ?_, HB.out⟩
  rw [hE.out]
  clear hE HB c0 c1 c2 c3 c4 c5 c6 c7 c8 c9 c10 c11 c12 c13 c14 c15
  replace m0 := m0.out
  replace m1 := m1.out
  replace m2 := m2.out
  omega
set_option maxRecDepth 4000 in
set_option maxHeartbeats 8000000 in
theorem en21_0 (rd rn rm ra imm imm2 amount shift cond sys : Int) (minus not link : Bool) (w : World) (hr : rightB ⟨21, 0, rd, rn, rm, ra, imm, imm2, amount, shift, cond, sys, false, minus, not, link⟩ = true) :
    Calls Try.prog 12 #[(⟨21, 0, rd, rn, rm, ra, imm, imm2, amount, shift, cond, sys, false, minus, not, link⟩ : Ins).val] w fun e w' => e = .returned (.tuple #[.int .u32 (encV ⟨21, 0, rd, rn, rm, ra, imm, imm2, amount, shift, cond, sys, false, minus, not, link⟩).1, .bool true]) ∧ Below w.heap.size w w' := by
  have R := rightF hr
  have hE := (wd20 0 rd rn rm ra imm imm2 amount shift cond sys false minus not link hr).1
  replace hE := show Hid _ from hE
  have HC := rright_c ⟨21, 0, rd, rn, rm, ra, imm, imm2, amount, shift, cond, sys, false, minus, not, link⟩
  rw [hr] at HC
  replace HC := show Hid _ from HC
  clear R hr
  have BX := heap_alloc_new w (.cells #[vI 21, vI 0, vI rd, vI rn, vI rm, vI ra, vI imm, vI imm2, vI amount, vI shift, vI cond, vI sys, .bool false, .bool minus, .bool not, .bool link] 25)
  have HB := below_alloc w (.cells #[vI 21, vI 0, vI rd, vI rn, vI rm, vI ra, vI imm, vI imm2, vI amount, vI shift, vI cond, vI sys, .bool false, .bool minus, .bool not, .bool link] 25)
  have b0 : 0 ≤ lowI rd 5 ∧ lowI rd 5 < 32 := lowI_in _ 5
  have m0 : Hid (lowI rd 5 = rd % 32) := lowI_mod rd 5 (by decide)
  have b1 : 0 ≤ lowI rn 5 ∧ lowI rn 5 < 32 := lowI_in _ 5
  have m1 : Hid (lowI rn 5 = rn % 32) := lowI_mod rn 5 (by decide)
  have b2 : 0 ≤ lowI rm 5 ∧ lowI rm 5 < 32 := lowI_in _ 5
  have m2 : Hid (lowI rm 5 = rm % 32) := lowI_mod rm 5 (by decide)
  have v0 := when_in minus (x := 1073741824) (by decide)
  have e0 : whenI false 536870912 = 0 := rfl
  skip
  go_enter Try.func12, Try.ntmps12
  go_wp2_with (first | (go_at_call 20; refine (HC.out _).mono ?_; rintro e w1 ⟨rfl, hb⟩; replace BX : w1.heap[w.heap.size]? = some (.cells #[vI 21, vI 0, vI rd, vI rn, vI rm, vI ra, vI imm, vI imm2, vI amount, vI shift, vI cond, vI sys, .bool false, .bool minus, .bool not, .bool link] 25) := (hb.block _ (Array.getElem?_eq_some_iff.1 BX).1).trans BX; replace HB : Hid (Below w.heap.size w w1) := HB.trans (hb.mono HB.size); clear hb HC; dsimp only; have c0 := cell_in BX 0 (v := vI 21) rfl; have c1 := cell_in BX 1 (v := vI 0) rfl; have c2 := cell_in BX 2 (v := vI rd) rfl; have c3 := cell_in BX 3 (v := vI rn) rfl; have c4 := cell_in BX 4 (v := vI rm) rfl; have c5 := cell_in BX 5 (v := vI ra) rfl; have c6 := cell_in BX 6 (v := vI imm) rfl; have c7 := cell_in BX 7 (v := vI imm2) rfl; have c8 := cell_in BX 8 (v := vI amount) rfl; have c9 := cell_in BX 9 (v := vI shift) rfl; have c10 := cell_in BX 10 (v := vI cond) rfl; have c11 := cell_in BX 11 (v := vI sys) rfl; have c12 := cell_in BX 12 (v := .bool false) rfl; have c13 := cell_in BX 13 (v := .bool minus) rfl; have c14 := cell_in BX 14 (v := .bool not) rfl; have c15 := cell_in BX 15 (v := .bool link) rfl) | ((with_reducible refine wpList_load_if rfl 25 _ rfl w.heap.size rfl 25 _ (0, 0) _ BX Try.underlying25 rfl (infoK _ rfl) ?_); simp only [Act.put, List.setIfInBounds_toArray, List.set_cons_succ, List.set_cons_zero]) | (go_at_call 21; refine (lowI_c _ _ (by decide) (by decide) _).mono ?_; rintro e w' ⟨rfl, rfl⟩; dsimp only))
  go_quiet ((first | (go_at_call 21; exact Calls.quiet_of_same (lowI_c _ _ (by decide) (by decide) _)) | (go_at_call 22; exact Calls.quiet_of_same (whenI_c _ _ _))))
  replace c0 : (w'.drewN nq).cell? ⟨w.heap.size, 0, none⟩ = some (vI 21) := c0
  replace c1 : (w'.drewN nq).cell? ⟨w.heap.size, 1, none⟩ = some (vI 0) := c1
  replace c2 : (w'.drewN nq).cell? ⟨w.heap.size, 2, none⟩ = some (vI rd) := c2
  replace c3 : (w'.drewN nq).cell? ⟨w.heap.size, 3, none⟩ = some (vI rn) := c3
  replace c4 : (w'.drewN nq).cell? ⟨w.heap.size, 4, none⟩ = some (vI rm) := c4
  replace c5 : (w'.drewN nq).cell? ⟨w.heap.size, 5, none⟩ = some (vI ra) := c5
  replace c6 : (w'.drewN nq).cell? ⟨w.heap.size, 6, none⟩ = some (vI imm) := c6
  replace c7 : (w'.drewN nq).cell? ⟨w.heap.size, 7, none⟩ = some (vI imm2) := c7
  replace c8 : (w'.drewN nq).cell? ⟨w.heap.size, 8, none⟩ = some (vI amount) := c8
  replace c9 : (w'.drewN nq).cell? ⟨w.heap.size, 9, none⟩ = some (vI shift) := c9
  replace c10 : (w'.drewN nq).cell? ⟨w.heap.size, 10, none⟩ = some (vI cond) := c10
  replace c11 : (w'.drewN nq).cell? ⟨w.heap.size, 11, none⟩ = some (vI sys) := c11
  replace c12 : (w'.drewN nq).cell? ⟨w.heap.size, 12, none⟩ = some (.bool false) := c12
  replace c13 : (w'.drewN nq).cell? ⟨w.heap.size, 13, none⟩ = some (.bool minus) := c13
  replace c14 : (w'.drewN nq).cell? ⟨w.heap.size, 14, none⟩ = some (.bool not) := c14
  replace c15 : (w'.drewN nq).cell? ⟨w.heap.size, 15, none⟩ = some (.bool link) := c15
  replace HB : Hid (Below w.heap.size w (w'.drewN nq)) := below_drewN HB.out nq
  replace BX : (w'.drewN nq).heap[w.heap.size]? = some (.cells #[vI 21, vI 0, vI rd, vI rn, vI rm, vI ra, vI imm, vI imm2, vI amount, vI shift, vI cond, vI sys, .bool false, .bool minus, .bool not, .bool link] 25) := BX
  generalize w'.drewN nq = w2 at *
  go_wp2_with (first | (go_at_call 23; refine (ac21_0 _ _ _ _ _ _ _ _ _ _ _ _ _ _ _ _ _ _ (by omega) (by omega) (by omega) (by omega) (by omega) (by omega) _).mono ?_; rintro e w3 ⟨rfl, hb⟩; replace HB : Hid (Below w.heap.size w w3) := HB.out.trans (hb.mono HB.out.size); clear hb; dsimp only) | ((with_reducible refine wpList_load_if rfl 25 _ rfl w.heap.size rfl 25 _ (0, 0) _ BX Try.underlying25 rfl (infoK _ rfl) ?_); simp only [Act.put, List.setIfInBounds_toArray, List.set_cons_succ, List.set_cons_zero]))
  go_ret2
  refine ⟨ret_tw ?_, HB.out⟩
  rw [hE.out]
  clear hE HB c0 c1 c2 c3 c4 c5 c6 c7 c8 c9 c10 c11 c12 c13 c14 c15
  replace m0 := m0.out
  replace m1 := m1.out
  replace m2 := m2.out
  omega
set_option maxRecDepth 4000 in
set_option maxHeartbeats 8000000 in
theorem en21_1 (rd rn rm ra imm imm2 amount shift cond sys : Int) (minus not link : Bool) (w : World) (hr : rightB ⟨21, 1, rd, rn, rm, ra, imm, imm2, amount, shift, cond, sys, false, minus, not, link⟩ = true) :
    Calls Try.prog 12 #[(⟨21, 1, rd, rn, rm, ra, imm, imm2, amount, shift, cond, sys, false, minus, not, link⟩ : Ins).val] w fun e w' => e = .returned (.tuple #[.int .u32 (encV ⟨21, 1, rd, rn, rm, ra, imm, imm2, amount, shift, cond, sys, false, minus, not, link⟩).1, .bool true]) ∧ Below w.heap.size w w' := by
  have R := rightF hr
  have hE := (wd21 1 rd rn rm ra imm imm2 amount shift cond sys false minus not link hr).1
  replace hE := show Hid _ from hE
  have HC := rright_c ⟨21, 1, rd, rn, rm, ra, imm, imm2, amount, shift, cond, sys, false, minus, not, link⟩
  rw [hr] at HC
  replace HC := show Hid _ from HC
  clear R hr
  have BX := heap_alloc_new w (.cells #[vI 21, vI 1, vI rd, vI rn, vI rm, vI ra, vI imm, vI imm2, vI amount, vI shift, vI cond, vI sys, .bool false, .bool minus, .bool not, .bool link] 25)
  have HB := below_alloc w (.cells #[vI 21, vI 1, vI rd, vI rn, vI rm, vI ra, vI imm, vI imm2, vI amount, vI shift, vI cond, vI sys, .bool false, .bool minus, .bool not, .bool link] 25)
  have b0 : 0 ≤ lowI rd 5 ∧ lowI rd 5 < 32 := lowI_in _ 5
  have m0 : Hid (lowI rd 5 = rd % 32) := lowI_mod rd 5 (by decide)
  have b1 : 0 ≤ lowI rn 5 ∧ lowI rn 5 < 32 := lowI_in _ 5
  have m1 : Hid (lowI rn 5 = rn % 32) := lowI_mod rn 5 (by decide)
  have b2 : 0 ≤ lowI rm 5 ∧ lowI rm 5 < 32 := lowI_in _ 5
  have m2 : Hid (lowI rm 5 = rm % 32) := lowI_mod rm 5 (by decide)
  have v0 := when_in minus (x := 1073741824) (by decide)
  have e0 : whenI false 536870912 = 0 := rfl
  skip
  go_enter Try.func12, Try.ntmps12
  go_wp2_with (first | (go_at_call 20; refine (HC.out _).mono ?_; rintro e w1 ⟨rfl, hb⟩; replace BX : w1.heap[w.heap.size]? = some (.cells #[vI 21, vI 1, vI rd, vI rn, vI rm, vI ra, vI imm, vI imm2, vI amount, vI shift, vI cond, vI sys, .bool false, .bool minus, .bool not, .bool link] 25) := (hb.block _ (Array.getElem?_eq_some_iff.1 BX).1).trans BX; replace HB : Hid (Below w.heap.size w w1) := HB.trans (hb.mono HB.size); clear hb HC; dsimp only; have c0 := cell_in BX 0 (v := vI 21) rfl; have c1 := cell_in BX 1 (v := vI 1) rfl; have c2 := cell_in BX 2 (v := vI rd) rfl; have c3 := cell_in BX 3 (v := vI rn) rfl; have c4 := cell_in BX 4 (v := vI rm) rfl; have c5 := cell_in BX 5 (v := vI ra) rfl; have c6 := cell_in BX 6 (v := vI imm) rfl; have c7 := cell_in BX 7 (v := vI imm2) rfl; have c8 := cell_in BX 8 (v := vI amount) rfl; have c9 := cell_in BX 9 (v := vI shift) rfl; have c10 := cell_in BX 10 (v := vI cond) rfl; have c11 := cell_in BX 11 (v := vI sys) rfl; have c12 := cell_in BX 12 (v := .bool false) rfl; have c13 := cell_in BX 13 (v := .bool minus) rfl; have c14 := cell_in BX 14 (v := .bool not) rfl; have c15 := cell_in BX 15 (v := .bool link) rfl) | ((with_reducible refine wpList_load_if rfl 25 _ rfl w.heap.size rfl 25 _ (0, 0) _ BX Try.underlying25 rfl (infoK _ rfl) ?_); simp only [Act.put, List.setIfInBounds_toArray, List.set_cons_succ, List.set_cons_zero]) | (go_at_call 21; refine (lowI_c _ _ (by decide) (by decide) _).mono ?_; rintro e w' ⟨rfl, rfl⟩; dsimp only))
  go_quiet ((first | (go_at_call 21; exact Calls.quiet_of_same (lowI_c _ _ (by decide) (by decide) _)) | (go_at_call 22; exact Calls.quiet_of_same (whenI_c _ _ _))))
  replace c0 : (w'.drewN nq).cell? ⟨w.heap.size, 0, none⟩ = some (vI 21) := c0
  replace c1 : (w'.drewN nq).cell? ⟨w.heap.size, 1, none⟩ = some (vI 1) := c1
  replace c2 : (w'.drewN nq).cell? ⟨w.heap.size, 2, none⟩ = some (vI rd) := c2
  replace c3 : (w'.drewN nq).cell? ⟨w.heap.size, 3, none⟩ = some (vI rn) := c3
  replace c4 : (w'.drewN nq).cell? ⟨w.heap.size, 4, none⟩ = some (vI rm) := c4
  replace c5 : (w'.drewN nq).cell? ⟨w.heap.size, 5, none⟩ = some (vI ra) := c5
  replace c6 : (w'.drewN nq).cell? ⟨w.heap.size, 6, none⟩ = some (vI imm) := c6
  replace c7 : (w'.drewN nq).cell? ⟨w.heap.size, 7, none⟩ = some (vI imm2) := c7
  replace c8 : (w'.drewN nq).cell? ⟨w.heap.size, 8, none⟩ = some (vI amount) := c8
  replace c9 : (w'.drewN nq).cell? ⟨w.heap.size, 9, none⟩ = some (vI shift) := c9
  replace c10 : (w'.drewN nq).cell? ⟨w.heap.size, 10, none⟩ = some (vI cond) := c10
  replace c11 : (w'.drewN nq).cell? ⟨w.heap.size, 11, none⟩ = some (vI sys) := c11
  replace c12 : (w'.drewN nq).cell? ⟨w.heap.size, 12, none⟩ = some (.bool false) := c12
  replace c13 : (w'.drewN nq).cell? ⟨w.heap.size, 13, none⟩ = some (.bool minus) := c13
  replace c14 : (w'.drewN nq).cell? ⟨w.heap.size, 14, none⟩ = some (.bool not) := c14
  replace c15 : (w'.drewN nq).cell? ⟨w.heap.size, 15, none⟩ = some (.bool link) := c15
  replace HB : Hid (Below w.heap.size w (w'.drewN nq)) := below_drewN HB.out nq
  replace BX : (w'.drewN nq).heap[w.heap.size]? = some (.cells #[vI 21, vI 1, vI rd, vI rn, vI rm, vI ra, vI imm, vI imm2, vI amount, vI shift, vI cond, vI sys, .bool false, .bool minus, .bool not, .bool link] 25) := BX
  generalize w'.drewN nq = w2 at *
  go_wp2_with (first | (go_at_call 23; refine (ac21_1 _ _ _ _ _ _ _ _ _ _ _ _ _ _ _ _ _ _ (by omega) (by omega) (by omega) (by omega) (by omega) (by omega) _).mono ?_; rintro e w3 ⟨rfl, hb⟩; replace HB : Hid (Below w.heap.size w w3) := HB.out.trans (hb.mono HB.out.size); clear hb; dsimp only) | ((with_reducible refine wpList_load_if rfl 25 _ rfl w.heap.size rfl 25 _ (0, 0) _ BX Try.underlying25 rfl (infoK _ rfl) ?_); simp only [Act.put, List.setIfInBounds_toArray, List.set_cons_succ, List.set_cons_zero]))
  go_ret2
  refine ⟨ret_tw ?_, HB.out⟩
  rw [hE.out]
  clear hE HB c0 c1 c2 c3 c4 c5 c6 c7 c8 c9 c10 c11 c12 c13 c14 c15
  replace m0 := m0.out
  replace m1 := m1.out
  replace m2 := m2.out
  omega
set_option maxRecDepth 4000 in
set_option maxHeartbeats 8000000 in
theorem en22 (sub rd rn rm ra imm imm2 amount shift cond sys : Int) (minus not link : Bool) (w : World) (hr : rightB ⟨22, sub, rd, rn, rm, ra, imm, imm2, amount, shift, cond, sys, false, minus, not, link⟩ = true) :
    Calls Try.prog 12 #[(⟨22, sub, rd, rn, rm, ra, imm, imm2, amount, shift, cond, sys, false, minus, not, link⟩ : Ins).val] w fun e w' => e = .returned (.tuple #[.int .u32 (encV ⟨22, sub, rd, rn, rm, ra, imm, imm2, amount, shift, cond, sys, false, minus, not, link⟩).1, .bool true]) ∧ Below w.heap.size w w' := by
  have R := rightF hr
  obtain rfl : sub = 0 := zero_of R.sub
  have hE := (wd22 0 rd rn rm ra imm imm2 amount shift cond sys false minus not link hr).1
  replace hE := show Hid _ from hE
  have HC := rright_c ⟨22, 0, rd, rn, rm, ra, imm, imm2, amount, shift, cond, sys, false, minus, not, link⟩
  rw [hr] at HC
  replace HC := show Hid _ from HC
  clear R hr
  have BX := heap_alloc_new w (.cells #[vI 22, vI 0, vI rd, vI rn, vI rm, vI ra, vI imm, vI imm2, vI amount, vI shift, vI cond, vI sys, .bool false, .bool minus, .bool not, .bool link] 25)
  have HB := below_alloc w (.cells #[vI 22, vI 0, vI rd, vI rn, vI rm, vI ra, vI imm, vI imm2, vI amount, vI shift, vI cond, vI sys, .bool false, .bool minus, .bool not, .bool link] 25)
  have b0 : 0 ≤ lowI rd 5 ∧ lowI rd 5 < 32 := lowI_in _ 5
  have m0 : Hid (lowI rd 5 = rd % 32) := lowI_mod rd 5 (by decide)
  have b1 : 0 ≤ lowI rn 5 ∧ lowI rn 5 < 32 := lowI_in _ 5
  have m1 : Hid (lowI rn 5 = rn % 32) := lowI_mod rn 5 (by decide)
  have b2 : 0 ≤ lowI rm 5 ∧ lowI rm 5 < 32 := lowI_in _ 5
  have m2 : Hid (lowI rm 5 = rm % 32) := lowI_mod rm 5 (by decide)
  have v0 := when_in minus (x := 1073741824) (by decide)
  have e0 : whenI false 536870912 = 0 := rfl
  skip
  go_enter Try.func12, Try.ntmps12
  go_wp2_with (first | (go_at_call 20; refine (HC.out _).mono ?_; rintro e w1 ⟨rfl, hb⟩; replace BX : w1.heap[w.heap.size]? = some (.cells #[vI 22, vI 0, vI rd, vI rn, vI rm, vI ra, vI imm, vI imm2, vI amount, vI shift, vI cond, vI sys, .bool false, .bool minus, .bool not, .bool link] 25) := (hb.block _ (Array.getElem?_eq_some_iff.1 BX).1).trans BX; replace HB : Hid (Below w.heap.size w w1) := HB.trans (hb.mono HB.size); clear hb HC; dsimp only; have c0 := cell_in BX 0 (v := vI 22) rfl; have c1 := cell_in BX 1 (v := vI 0) rfl; have c2 := cell_in BX 2 (v := vI rd) rfl; have c3 := cell_in BX 3 (v := vI rn) rfl; have c4 := cell_in BX 4 (v := vI rm) rfl; have c5 := cell_in BX 5 (v := vI ra) rfl; have c6 := cell_in BX 6 (v := vI imm) rfl; have c7 := cell_in BX 7 (v := vI imm2) rfl; have c8 := cell_in BX 8 (v := vI amount) rfl; have c9 := cell_in BX 9 (v := vI shift) rfl; have c10 := cell_in BX 10 (v := vI cond) rfl; have c11 := cell_in BX 11 (v := vI sys) rfl; have c12 := cell_in BX 12 (v := .bool false) rfl; have c13 := cell_in BX 13 (v := .bool minus) rfl; have c14 := cell_in BX 14 (v := .bool not) rfl; have c15 := cell_in BX 15 (v := .bool link) rfl) | ((with_reducible refine wpList_load_if rfl 25 _ rfl w.heap.size rfl 25 _ (0, 0) _ BX Try.underlying25 rfl (infoK _ rfl) ?_); simp only [Act.put, List.setIfInBounds_toArray, List.set_cons_succ, List.set_cons_zero]) | (go_at_call 21; refine (lowI_c _ _ (by decide) (by decide) _).mono ?_; rintro e w' ⟨rfl, rfl⟩; dsimp only))
  go_quiet ((first | (go_at_call 21; exact Calls.quiet_of_same (lowI_c _ _ (by decide) (by decide) _)) | (go_at_call 22; exact Calls.quiet_of_same (whenI_c _ _ _))))
  replace c0 : (w'.drewN nq).cell? ⟨w.heap.size, 0, none⟩ = some (vI 22) := c0
  replace c1 : (w'.drewN nq).cell? ⟨w.heap.size, 1, none⟩ = some (vI 0) := c1
  replace c2 : (w'.drewN nq).cell? ⟨w.heap.size, 2, none⟩ = some (vI rd) := c2
  replace c3 : (w'.drewN nq).cell? ⟨w.heap.size, 3, none⟩ = some (vI rn) := c3
  replace c4 : (w'.drewN nq).cell? ⟨w.heap.size, 4, none⟩ = some (vI rm) := c4
  replace c5 : (w'.drewN nq).cell? ⟨w.heap.size, 5, none⟩ = some (vI ra) := c5
  replace c6 : (w'.drewN nq).cell? ⟨w.heap.size, 6, none⟩ = some (vI imm) := c6
  replace c7 : (w'.drewN nq).cell? ⟨w.heap.size, 7, none⟩ = some (vI imm2) := c7
  replace c8 : (w'.drewN nq).cell? ⟨w.heap.size, 8, none⟩ = some (vI amount) := c8
  replace c9 : (w'.drewN nq).cell? ⟨w.heap.size, 9, none⟩ = some (vI shift) := c9
  replace c10 : (w'.drewN nq).cell? ⟨w.heap.size, 10, none⟩ = some (vI cond) := c10
  replace c11 : (w'.drewN nq).cell? ⟨w.heap.size, 11, none⟩ = some (vI sys) := c11
  replace c12 : (w'.drewN nq).cell? ⟨w.heap.size, 12, none⟩ = some (.bool false) := c12
  replace c13 : (w'.drewN nq).cell? ⟨w.heap.size, 13, none⟩ = some (.bool minus) := c13
  replace c14 : (w'.drewN nq).cell? ⟨w.heap.size, 14, none⟩ = some (.bool not) := c14
  replace c15 : (w'.drewN nq).cell? ⟨w.heap.size, 15, none⟩ = some (.bool link) := c15
  replace HB : Hid (Below w.heap.size w (w'.drewN nq)) := below_drewN HB.out nq
  replace BX : (w'.drewN nq).heap[w.heap.size]? = some (.cells #[vI 22, vI 0, vI rd, vI rn, vI rm, vI ra, vI imm, vI imm2, vI amount, vI shift, vI cond, vI sys, .bool false, .bool minus, .bool not, .bool link] 25) := BX
  generalize w'.drewN nq = w2 at *
  go_wp2_with (first | (go_at_call 23; refine (ac22 _ _ _ _ _ _ _ _ _ _ _ _ _ _ _ _ _ _ _ (by omega) (by omega) (by omega) (by omega) (by omega) (by omega) (by omega) (by omega) _).mono ?_; rintro e w3 ⟨rfl, hb⟩; replace HB : Hid (Below w.heap.size w w3) := HB.out.trans (hb.mono HB.out.size); clear hb; dsimp only) | ((with_reducible refine wpList_load_if rfl 25 _ rfl w.heap.size rfl 25 _ (0, 0) _ BX Try.underlying25 rfl (infoK _ rfl) ?_); simp only [Act.put, List.setIfInBounds_toArray, List.set_cons_succ, List.set_cons_zero]))
  go_ret2
  refine ⟨ret_tw ?_, HB.out⟩
  rw [hE.out]
  clear hE HB c0 c1 c2 c3 c4 c5 c6 c7 c8 c9 c10 c11 c12 c13 c14 c15
  replace m0 := m0.out
  replace m1 := m1.out
  replace m2 := m2.out
  omega
set_option maxRecDepth 4000 in
set_option maxHeartbeats 8000000 in
theorem en23 (sub rd rn rm ra imm imm2 amount shift cond sys : Int) (minus not link : Bool) (w : World) (hr : rightB ⟨23, sub, rd, rn, rm, ra, imm, imm2, amount, shift, cond, sys, false, minus, not, link⟩ = true) :
    Calls Try.prog 12 #[(⟨23, sub, rd, rn, rm, ra, imm, imm2, amount, shift, cond, sys, false, minus, not, link⟩ : Ins).val] w fun e w' => e = .returned (.tuple #[.int .u32 (encV ⟨23, sub, rd, rn, rm, ra, imm, imm2, amount, shift, cond, sys, false, minus, not, link⟩).1, .bool true]) ∧ Below w.heap.size w w' := by
  have R := rightF hr
  obtain ⟨x0, y0, z0⟩ := holds_of (lo := 0) (hi := 1) (st := 1) (n := sub) R.sub
  clear z0
  have hE := (wd23 sub rd rn rm ra imm imm2 amount shift cond sys false minus not link hr).1
  replace hE := show Hid _ from hE
  have HC := rright_c ⟨23, sub, rd, rn, rm, ra, imm, imm2, amount, shift, cond, sys, false, minus, not, link⟩
  rw [hr] at HC
  replace HC := show Hid _ from HC
  clear R hr
  have BX := heap_alloc_new w (.cells #[vI 23, vI sub, vI rd, vI rn, vI rm, vI ra, vI imm, vI imm2, vI amount, vI shift, vI cond, vI sys, .bool false, .bool minus, .bool not, .bool link] 25)
  have HB := below_alloc w (.cells #[vI 23, vI sub, vI rd, vI rn, vI rm, vI ra, vI imm, vI imm2, vI amount, vI shift, vI cond, vI sys, .bool false, .bool minus, .bool not, .bool link] 25)
  have b0 : 0 ≤ lowI rd 5 ∧ lowI rd 5 < 32 := lowI_in _ 5
  have m0 : Hid (lowI rd 5 = rd % 32) := lowI_mod rd 5 (by decide)
  have b1 : 0 ≤ lowI rn 5 ∧ lowI rn 5 < 32 := lowI_in _ 5
  have m1 : Hid (lowI rn 5 = rn % 32) := lowI_mod rn 5 (by decide)
  have b2 : 0 ≤ lowI rm 5 ∧ lowI rm 5 < 32 := lowI_in _ 5
  have m2 : Hid (lowI rm 5 = rm % 32) := lowI_mod rm 5 (by decide)
  have v0 := when_in minus (x := 1073741824) (by decide)
  have e0 : whenI false 536870912 = 0 := rfl
  skip
  go_enter Try.func12, Try.ntmps12
  go_wp2_with (first | (go_at_call 20; refine (HC.out _).mono ?_; rintro e w1 ⟨rfl, hb⟩; replace BX : w1.heap[w.heap.size]? = some (.cells #[vI 23, vI sub, vI rd, vI rn, vI rm, vI ra, vI imm, vI imm2, vI amount, vI shift, vI cond, vI sys, .bool false, .bool minus, .bool not, .bool link] 25) := (hb.block _ (Array.getElem?_eq_some_iff.1 BX).1).trans BX; replace HB : Hid (Below w.heap.size w w1) := HB.trans (hb.mono HB.size); clear hb HC; dsimp only; have c0 := cell_in BX 0 (v := vI 23) rfl; have c1 := cell_in BX 1 (v := vI sub) rfl; have c2 := cell_in BX 2 (v := vI rd) rfl; have c3 := cell_in BX 3 (v := vI rn) rfl; have c4 := cell_in BX 4 (v := vI rm) rfl; have c5 := cell_in BX 5 (v := vI ra) rfl; have c6 := cell_in BX 6 (v := vI imm) rfl; have c7 := cell_in BX 7 (v := vI imm2) rfl; have c8 := cell_in BX 8 (v := vI amount) rfl; have c9 := cell_in BX 9 (v := vI shift) rfl; have c10 := cell_in BX 10 (v := vI cond) rfl; have c11 := cell_in BX 11 (v := vI sys) rfl; have c12 := cell_in BX 12 (v := .bool false) rfl; have c13 := cell_in BX 13 (v := .bool minus) rfl; have c14 := cell_in BX 14 (v := .bool not) rfl; have c15 := cell_in BX 15 (v := .bool link) rfl) | ((with_reducible refine wpList_load_if rfl 25 _ rfl w.heap.size rfl 25 _ (0, 0) _ BX Try.underlying25 rfl (infoK _ rfl) ?_); simp only [Act.put, List.setIfInBounds_toArray, List.set_cons_succ, List.set_cons_zero]) | (go_at_call 21; refine (lowI_c _ _ (by decide) (by decide) _).mono ?_; rintro e w' ⟨rfl, rfl⟩; dsimp only))
  go_quiet ((first | (go_at_call 21; exact Calls.quiet_of_same (lowI_c _ _ (by decide) (by decide) _)) | (go_at_call 22; exact Calls.quiet_of_same (whenI_c _ _ _))))
  replace c0 : (w'.drewN nq).cell? ⟨w.heap.size, 0, none⟩ = some (vI 23) := c0
  replace c1 : (w'.drewN nq).cell? ⟨w.heap.size, 1, none⟩ = some (vI sub) := c1
  replace c2 : (w'.drewN nq).cell? ⟨w.heap.size, 2, none⟩ = some (vI rd) := c2
  replace c3 : (w'.drewN nq).cell? ⟨w.heap.size, 3, none⟩ = some (vI rn) := c3
  replace c4 : (w'.drewN nq).cell? ⟨w.heap.size, 4, none⟩ = some (vI rm) := c4
  replace c5 : (w'.drewN nq).cell? ⟨w.heap.size, 5, none⟩ = some (vI ra) := c5
  replace c6 : (w'.drewN nq).cell? ⟨w.heap.size, 6, none⟩ = some (vI imm) := c6
  replace c7 : (w'.drewN nq).cell? ⟨w.heap.size, 7, none⟩ = some (vI imm2) := c7
  replace c8 : (w'.drewN nq).cell? ⟨w.heap.size, 8, none⟩ = some (vI amount) := c8
  replace c9 : (w'.drewN nq).cell? ⟨w.heap.size, 9, none⟩ = some (vI shift) := c9
  replace c10 : (w'.drewN nq).cell? ⟨w.heap.size, 10, none⟩ = some (vI cond) := c10
  replace c11 : (w'.drewN nq).cell? ⟨w.heap.size, 11, none⟩ = some (vI sys) := c11
  replace c12 : (w'.drewN nq).cell? ⟨w.heap.size, 12, none⟩ = some (.bool false) := c12
  replace c13 : (w'.drewN nq).cell? ⟨w.heap.size, 13, none⟩ = some (.bool minus) := c13
  replace c14 : (w'.drewN nq).cell? ⟨w.heap.size, 14, none⟩ = some (.bool not) := c14
  replace c15 : (w'.drewN nq).cell? ⟨w.heap.size, 15, none⟩ = some (.bool link) := c15
  replace HB : Hid (Below w.heap.size w (w'.drewN nq)) := below_drewN HB.out nq
  replace BX : (w'.drewN nq).heap[w.heap.size]? = some (.cells #[vI 23, vI sub, vI rd, vI rn, vI rm, vI ra, vI imm, vI imm2, vI amount, vI shift, vI cond, vI sys, .bool false, .bool minus, .bool not, .bool link] 25) := BX
  generalize w'.drewN nq = w2 at *
  go_wp2_with (first | (go_at_call 23; refine (ac23 _ _ _ _ _ _ _ _ _ _ _ _ _ _ _ _ _ _ _ (by omega) (by omega) (by omega) (by omega) (by omega) (by omega) (by omega) (by omega) _).mono ?_; rintro e w3 ⟨rfl, hb⟩; replace HB : Hid (Below w.heap.size w w3) := HB.out.trans (hb.mono HB.out.size); clear hb; dsimp only) | ((with_reducible refine wpList_load_if rfl 25 _ rfl w.heap.size rfl 25 _ (0, 0) _ BX Try.underlying25 rfl (infoK _ rfl) ?_); simp only [Act.put, List.setIfInBounds_toArray, List.set_cons_succ, List.set_cons_zero]))
  go_ret2
  refine ⟨ret_tw ?_, HB.out⟩
  rw [hE.out]
  clear hE HB c0 c1 c2 c3 c4 c5 c6 c7 c8 c9 c10 c11 c12 c13 c14 c15
  replace m0 := m0.out
  replace m1 := m1.out
  replace m2 := m2.out
  omega
end Go.Proofs.Ytcmilajlngnibaa
