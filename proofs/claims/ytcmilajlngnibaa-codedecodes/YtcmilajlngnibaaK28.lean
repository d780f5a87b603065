/- Encode of the document's own answer to chapter 3: contracts, an Op each. -/
import Derived.Test.YtcmilajlngnibaaK26
namespace Go.Proofs.Ytcmilajlngnibaa
open Go.RowKit Go.Rel
set_option linter.unusedVariables false
set_option linter.unusedSimpArgs false

set_option maxRecDepth 4000 in
set_option maxHeartbeats 8000000 in
theorem en5 (sub rd rn rm ra imm imm2 amount shift cond sys : Int) (minus not link : Bool) (w : World) (hr : rightB ⟨5, sub, rd, rn, rm, ra, imm, imm2, amount, shift, cond, sys, false, minus, not, link⟩ = true) :
    Calls Try.prog 12 #[(⟨5, sub, rd, rn, rm, ra, imm, imm2, amount, shift, cond, sys, false, minus, not, link⟩ : Ins).val] w fun e w' => e = .returned (.tuple #[.int .u32 (encV ⟨5, sub, rd, rn, rm, ra, imm, imm2, amount, shift, cond, sys, false, minus, not, link⟩).1, .bool true]) ∧ Below w.heap.size w w' := by
  have R := rightF hr
  obtain ⟨x0, y0, z0⟩ := holds_of (lo := 0) (hi := 3) (st := 1) (n := sub) R.sub
  clear z0
  obtain ⟨x1, y1, z1⟩ := holds_of (lo := 0) (hi := 65535) (st := 1) (n := imm) R.imm
  clear z1
  obtain ⟨x2, y2, z2⟩ := holds_of (lo := 0) (hi := 48) (st := 16) (n := amount) R.amount
  clear z2
  have hE := (wd4 sub rd rn rm ra imm imm2 amount shift cond sys false minus not link hr).1
  have nn0 : amount.tdiv 16 = amount / 16 := Int.tdiv_eq_ediv_of_nonneg (by omega)
  rw [nn0] at hE
  clear nn0
  replace hE := show Hid _ from hE
  have HC := rright_c ⟨5, sub, rd, rn, rm, ra, imm, imm2, amount, shift, cond, sys, false, minus, not, link⟩
  rw [hr] at HC
  replace HC := show Hid _ from HC
  clear R hr
  have BX := heap_alloc_new w (.cells #[vI 5, vI sub, vI rd, vI rn, vI rm, vI ra, vI imm, vI imm2, vI amount, vI shift, vI cond, vI sys, .bool false, .bool minus, .bool not, .bool link] 25)
  have HB := below_alloc w (.cells #[vI 5, vI sub, vI rd, vI rn, vI rm, vI ra, vI imm, vI imm2, vI amount, vI shift, vI cond, vI sys, .bool false, .bool minus, .bool not, .bool link] 25)
  have b0 : 0 ≤ lowI rd 5 ∧ lowI rd 5 < 32 := lowI_in _ 5
  have m0 : Hid (lowI rd 5 = rd % 32) := lowI_mod rd 5 (by decide)
  have b1 : 0 ≤ lowI rn 5 ∧ lowI rn 5 < 32 := lowI_in _ 5
  have m1 : Hid (lowI rn 5 = rn % 32) := lowI_mod rn 5 (by decide)
  have b2 : 0 ≤ lowI rm 5 ∧ lowI rm 5 < 32 := lowI_in _ 5
  have m2 : Hid (lowI rm 5 = rm % 32) := lowI_mod rm 5 (by decide)
  have b3 : 0 ≤ lowI imm 16 ∧ lowI imm 16 < 65536 := lowI_in _ 16
  have m3 : Hid (lowI imm 16 = imm % 65536) := lowI_mod imm 16 (by decide)
  have v0 := when_in minus (x := 1073741824) (by decide)
  have e0 : whenI false 536870912 = 0 := rfl
  skip
  go_enter Try.func12, Try.ntmps12
  go_wp2_with (first | (go_at_call 20; refine (HC.out _).mono ?_; rintro e w1 ⟨rfl, hb⟩; replace BX : w1.heap[w.heap.size]? = some (.cells #[vI 5, vI sub, vI rd, vI rn, vI rm, vI ra, vI imm, vI imm2, vI amount, vI shift, vI cond, vI sys, .bool false, .bool minus, .bool not, .bool link] 25) := (hb.block _ (Array.getElem?_eq_some_iff.1 BX).1).trans BX; replace HB : Hid (Below w.heap.size w w1) := HB.trans (hb.mono HB.size); clear hb HC; dsimp only; have c0 := cell_in BX 0 (v := vI 5) rfl; have c1 := cell_in BX 1 (v := vI sub) rfl; have c2 := cell_in BX 2 (v := vI rd) rfl; have c3 := cell_in BX 3 (v := vI rn) rfl; have c4 := cell_in BX 4 (v := vI rm) rfl; have c5 := cell_in BX 5 (v := vI ra) rfl; have c6 := cell_in BX 6 (v := vI imm) rfl; have c7 := cell_in BX 7 (v := vI imm2) rfl; have c8 := cell_in BX 8 (v := vI amount) rfl; have c9 := cell_in BX 9 (v := vI shift) rfl; have c10 := cell_in BX 10 (v := vI cond) rfl; have c11 := cell_in BX 11 (v := vI sys) rfl; have c12 := cell_in BX 12 (v := .bool false) rfl; have c13 := cell_in BX 13 (v := .bool minus) rfl; have c14 := cell_in BX 14 (v := .bool not) rfl; have c15 := cell_in BX 15 (v := .bool link) rfl) | ((with_reducible refine wpList_load_if rfl 25 _ rfl w.heap.size rfl 25 _ (0, 0) _ BX Try.underlying25 rfl (infoK _ rfl) ?_); simp only [Act.put, List.setIfInBounds_toArray, List.set_cons_succ, List.set_cons_zero]) | (go_at_call 21; refine (lowI_c _ _ (by decide) (by decide) _).mono ?_; rintro e w' ⟨rfl, rfl⟩; dsimp only))
  go_quiet ((first | (go_at_call 21; exact Calls.quiet_of_same (lowI_c _ _ (by decide) (by decide) _)) | (go_at_call 22; exact Calls.quiet_of_same (whenI_c _ _ _))))
  replace c0 : (w'.drewN nq).cell? ⟨w.heap.size, 0, none⟩ = some (vI 5) := c0
  replace c1 : (w'.drewN nq).cell? ⟨w.heap.size, 1, none⟩ = some (vI sub) := c1
  replace c2 : (w'.drewN nq).cell? ⟨w.heap.size, 2, none⟩ = some (vI rd) := c2
  replace c3 : (w'.drewN nq).cell? ⟨w.heap.size, 3, none⟩ = some (vI rn) := c3
  replace c4 : (w'.drewN nq).cell? ⟨w.heap.size, 4, none⟩ = some (vI rm) := c4
  replace c5 : (w'.drewN nq).cell? ⟨w.heap.size, 5, none⟩ = some (vI ra) := c5
  replace c6 : (w'.drewN nq).cell? ⟨w.heap.size, 6, none⟩ = some (vI imm) := c6
  replace c7 : (w'.drewN nq).cell? ⟨w.heap.size, 7, none⟩ = some (vI imm2) := c7
  replace c8 : (w'.drewN nq).cell? ⟨w.heap.size, 8, none⟩ = some (vI amount) := c8
  replace c9 : (w'.drewN nq).cell? ⟨w.heap.size, 9, none⟩ = some (vI shift) := c9
  replace c10 : (w'.drewN nq).cell? ⟨w.heap.size, 10, none⟩ = some (vI cond) := c10
  replace c11 : (w'.drewN nq).cell? ⟨w.heap.size, 11, none⟩ = some (vI sys) := c11
  replace c12 : (w'.drewN nq).cell? ⟨w.heap.size, 12, none⟩ = some (.bool false) := c12
  replace c13 : (w'.drewN nq).cell? ⟨w.heap.size, 13, none⟩ = some (.bool minus) := c13
  replace c14 : (w'.drewN nq).cell? ⟨w.heap.size, 14, none⟩ = some (.bool not) := c14
  replace c15 : (w'.drewN nq).cell? ⟨w.heap.size, 15, none⟩ = some (.bool link) := c15
  replace HB : Hid (Below w.heap.size w (w'.drewN nq)) := below_drewN HB.out nq
  replace BX : (w'.drewN nq).heap[w.heap.size]? = some (.cells #[vI 5, vI sub, vI rd, vI rn, vI rm, vI ra, vI imm, vI imm2, vI amount, vI shift, vI cond, vI sys, .bool false, .bool minus, .bool not, .bool link] 25) := BX
  generalize w'.drewN nq = w2 at *
  clear BX
  go_wp2_with fail
  go_quiet ((first | (go_at_call 21; exact Calls.quiet_of_same (lowI_c _ _ (by decide) (by decide) _)) | (go_at_call 22; exact Calls.quiet_of_same (whenI_c _ _ _))))
  go_wp2
  go_ret2
  refine ⟨ret_tw ?_, below_drewN HB.out _⟩
  rw [hE.out]
  clear hE HB c0 c1 c2 c3 c4 c5 c6 c7 c8 c9 c10 c11 c12 c13 c14 c15
  replace m0 := m0.out
  replace m1 := m1.out
  replace m2 := m2.out
  replace m3 := m3.out
  omega
set_option maxRecDepth 4000 in
set_option maxHeartbeats 8000000 in
theorem en6 (sub rd rn rm ra imm imm2 amount shift cond sys : Int) (minus not link : Bool) (w : World) (hr : rightB ⟨6, sub, rd, rn, rm, ra, imm, imm2, amount, shift, cond, sys, false, minus, not, link⟩ = true) :
    Calls Try.prog 12 #[(⟨6, sub, rd, rn, rm, ra, imm, imm2, amount, shift, cond, sys, false, minus, not, link⟩ : Ins).val] w fun e w' => e = .returned (.tuple #[.int .u32 (encV ⟨6, sub, rd, rn, rm, ra, imm, imm2, amount, shift, cond, sys, false, minus, not, link⟩).1, .bool true]) ∧ Below w.heap.size w w' := by
  have R := rightF hr
  obtain ⟨x0, y0, z0⟩ := holds_of (lo := 0) (hi := 2) (st := 2) (n := sub) R.sub
  clear z0
  obtain ⟨x1, y1, z1⟩ := holds_of (lo := 0) (hi := 63) (st := 1) (n := imm) R.imm
  clear z1
  obtain ⟨x2, y2, z2⟩ := holds_of (lo := 0) (hi := 63) (st := 1) (n := imm2) R.imm2
  clear z2
  have hE := (wd5 sub rd rn rm ra imm imm2 amount shift cond sys false minus not link hr).1
  replace hE := show Hid _ from hE
  have HC := rright_c ⟨6, sub, rd, rn, rm, ra, imm, imm2, amount, shift, cond, sys, false, minus, not, link⟩
  rw [hr] at HC
  replace HC := show Hid _ from HC
  clear R hr
  have BX := heap_alloc_new w (.cells #[vI 6, vI sub, vI rd, vI rn, vI rm, vI ra, vI imm, vI imm2, vI amount, vI shift, vI cond, vI sys, .bool false, .bool minus, .bool not, .bool link] 25)
  have HB := below_alloc w (.cells #[vI 6, vI sub, vI rd, vI rn, vI rm, vI ra, vI imm, vI imm2, vI amount, vI shift, vI cond, vI sys, .bool false, .bool minus, .bool not, .bool link] 25)
  have b0 : 0 ≤ lowI rd 5 ∧ lowI rd 5 < 32 := lowI_in _ 5
  have m0 : Hid (lowI rd 5 = rd % 32) := lowI_mod rd 5 (by decide)
  have b1 : 0 ≤ lowI rn 5 ∧ lowI rn 5 < 32 := lowI_in _ 5
  have m1 : Hid (lowI rn 5 = rn % 32) := lowI_mod rn 5 (by decide)
  have b2 : 0 ≤ lowI rm 5 ∧ lowI rm 5 < 32 := lowI_in _ 5
  have m2 : Hid (lowI rm 5 = rm % 32) := lowI_mod rm 5 (by decide)
  have b3 : 0 ≤ lowI imm 6 ∧ lowI imm 6 < 64 := lowI_in _ 6
  have m3 : Hid (lowI imm 6 = imm % 64) := lowI_mod imm 6 (by decide)
  have b4 : 0 ≤ lowI imm2 6 ∧ lowI imm2 6 < 64 := lowI_in _ 6
  have m4 : Hid (lowI imm2 6 = imm2 % 64) := lowI_mod imm2 6 (by decide)
  have v0 := when_in minus (x := 1073741824) (by decide)
  have e0 : whenI false 536870912 = 0 := rfl
  skip
  go_enter Try.func12, Try.ntmps12
  go_wp2_with (first | (go_at_call 20; refine (HC.out _).mono ?_; rintro e w1 ⟨rfl, hb⟩; replace BX : w1.heap[w.heap.size]? = some (.cells #[vI 6, vI sub, vI rd, vI rn, vI rm, vI ra, vI imm, vI imm2, vI amount, vI shift, vI cond, vI sys, .bool false, .bool minus, .bool not, .bool link] 25) := (hb.block _ (Array.getElem?_eq_some_iff.1 BX).1).trans BX; replace HB : Hid (Below w.heap.size w w1) := HB.trans (hb.mono HB.size); clear hb HC; dsimp only; have c0 := cell_in BX 0 (v := vI 6) rfl; have c1 := cell_in BX 1 (v := vI sub) rfl; have c2 := cell_in BX 2 (v := vI rd) rfl; have c3 := cell_in BX 3 (v := vI rn) rfl; have c4 := cell_in BX 4 (v := vI rm) rfl; have c5 := cell_in BX 5 (v := vI ra) rfl; have c6 := cell_in BX 6 (v := vI imm) rfl; have c7 := cell_in BX 7 (v := vI imm2) rfl; have c8 := cell_in BX 8 (v := vI amount) rfl; have c9 := cell_in BX 9 (v := vI shift) rfl; have c10 := cell_in BX 10 (v := vI cond) rfl; have c11 := cell_in BX 11 (v := vI sys) rfl; have c12 := cell_in BX 12 (v := .bool false) rfl; have c13 := cell_in BX 13 (v := .bool minus) rfl; have c14 := cell_in BX 14 (v := .bool not) rfl; have c15 := cell_in BX 15 (v := .bool link) rfl) | ((with_reducible refine wpList_load_if rfl 25 _ rfl w.heap.size rfl 25 _ (0, 0) _ BX Try.underlying25 rfl (infoK _ rfl) ?_); simp only [Act.put, List.setIfInBounds_toArray, List.set_cons_succ, List.set_cons_zero]) | (go_at_call 21; refine (lowI_c _ _ (by decide) (by decide) _).mono ?_; rintro e w' ⟨rfl, rfl⟩; dsimp only))
  go_quiet ((first | (go_at_call 21; exact Calls.quiet_of_same (lowI_c _ _ (by decide) (by decide) _)) | (go_at_call 22; exact Calls.quiet_of_same (whenI_c _ _ _))))
  replace c0 : (w'.drewN nq).cell? ⟨w.heap.size, 0, none⟩ = some (vI 6) := c0
  replace c1 : (w'.drewN nq).cell? ⟨w.heap.size, 1, none⟩ = some (vI sub) := c1
  replace c2 : (w'.drewN nq).cell? ⟨w.heap.size, 2, none⟩ = some (vI rd) := c2
  replace c3 : (w'.drewN nq).cell? ⟨w.heap.size, 3, none⟩ = some (vI rn) := c3
  replace c4 : (w'.drewN nq).cell? ⟨w.heap.size, 4, none⟩ = some (vI rm) := c4
  replace c5 : (w'.drewN nq).cell? ⟨w.heap.size, 5, none⟩ = some (vI ra) := c5
  replace c6 : (w'.drewN nq).cell? ⟨w.heap.size, 6, none⟩ = some (vI imm) := c6
  replace c7 : (w'.drewN nq).cell? ⟨w.heap.size, 7, none⟩ = some (vI imm2) := c7
  replace c8 : (w'.drewN nq).cell? ⟨w.heap.size, 8, none⟩ = some (vI amount) := c8
  replace c9 : (w'.drewN nq).cell? ⟨w.heap.size, 9, none⟩ = some (vI shift) := c9
  replace c10 : (w'.drewN nq).cell? ⟨w.heap.size, 10, none⟩ = some (vI cond) := c10
  replace c11 : (w'.drewN nq).cell? ⟨w.heap.size, 11, none⟩ = some (vI sys) := c11
  replace c12 : (w'.drewN nq).cell? ⟨w.heap.size, 12, none⟩ = some (.bool false) := c12
  replace c13 : (w'.drewN nq).cell? ⟨w.heap.size, 13, none⟩ = some (.bool minus) := c13
  replace c14 : (w'.drewN nq).cell? ⟨w.heap.size, 14, none⟩ = some (.bool not) := c14
  replace c15 : (w'.drewN nq).cell? ⟨w.heap.size, 15, none⟩ = some (.bool link) := c15
  replace HB : Hid (Below w.heap.size w (w'.drewN nq)) := below_drewN HB.out nq
  replace BX : (w'.drewN nq).heap[w.heap.size]? = some (.cells #[vI 6, vI sub, vI rd, vI rn, vI rm, vI ra, vI imm, vI imm2, vI amount, vI shift, vI cond, vI sys, .bool false, .bool minus, .bool not, .bool link] 25) := BX
  generalize w'.drewN nq = w2 at *
  clear BX
  go_wp2_with fail
  go_quiet ((first | (go_at_call 21; exact Calls.quiet_of_same (lowI_c _ _ (by decide) (by decide) _)) | (go_at_call 22; exact Calls.quiet_of_same (whenI_c _ _ _))))
  go_wp2
  go_ret2
  refine ⟨ret_tw ?_, below_drewN HB.out _⟩
  rw [hE.out]
  clear hE HB c0 c1 c2 c3 c4 c5 c6 c7 c8 c9 c10 c11 c12 c13 c14 c15
  replace m0 := m0.out
  replace m1 := m1.out
  replace m2 := m2.out
  replace m3 := m3.out
  replace m4 := m4.out
  omega
set_option maxRecDepth 4000 in
set_option maxHeartbeats 8000000 in
theorem en7 (sub rd rn rm ra imm imm2 amount shift cond sys : Int) (minus not link : Bool) (w : World) (hr : rightB ⟨7, sub, rd, rn, rm, ra, imm, imm2, amount, shift, cond, sys, false, minus, not, link⟩ = true) :
    Calls Try.prog 12 #[(⟨7, sub, rd, rn, rm, ra, imm, imm2, amount, shift, cond, sys, false, minus, not, link⟩ : Ins).val] w fun e w' => e = .returned (.tuple #[.int .u32 (encV ⟨7, sub, rd, rn, rm, ra, imm, imm2, amount, shift, cond, sys, false, minus, not, link⟩).1, .bool true]) ∧ Below w.heap.size w w' := by
  have R := rightF hr
  obtain ⟨x0, y0, z0⟩ := holds_of (lo := 0) (hi := 3) (st := 1) (n := sub) R.sub
  clear z0
  have hE := (wd6 sub rd rn rm ra imm imm2 amount shift cond sys false minus not link hr).1
  replace hE := show Hid _ from hE
  have HC := rright_c ⟨7, sub, rd, rn, rm, ra, imm, imm2, amount, shift, cond, sys, false, minus, not, link⟩
  rw [hr] at HC
  replace HC := show Hid _ from HC
  clear R hr
  have BX := heap_alloc_new w (.cells #[vI 7, vI sub, vI rd, vI rn, vI rm, vI ra, vI imm, vI imm2, vI amount, vI shift, vI cond, vI sys, .bool false, .bool minus, .bool not, .bool link] 25)
  have HB := below_alloc w (.cells #[vI 7, vI sub, vI rd, vI rn, vI rm, vI ra, vI imm, vI imm2, vI amount, vI shift, vI cond, vI sys, .bool false, .bool minus, .bool not, .bool link] 25)
  have b0 : 0 ≤ lowI rd 5 ∧ lowI rd 5 < 32 := lowI_in _ 5
  have m0 : Hid (lowI rd 5 = rd % 32) := lowI_mod rd 5 (by decide)
  have b1 : 0 ≤ lowI rn 5 ∧ lowI rn 5 < 32 := lowI_in _ 5
  have m1 : Hid (lowI rn 5 = rn % 32) := lowI_mod rn 5 (by decide)
  have b2 : 0 ≤ lowI rm 5 ∧ lowI rm 5 < 32 := lowI_in _ 5
  have m2 : Hid (lowI rm 5 = rm % 32) := lowI_mod rm 5 (by decide)
  have v0 := when_in minus (x := 1073741824) (by decide)
  have e0 : whenI false 536870912 = 0 := rfl
  skip
  go_enter Try.func12, Try.ntmps12
  go_wp2_with (first | (go_at_call 20; refine (HC.out _).mono ?_; rintro e w1 ⟨rfl, hb⟩; replace BX : w1.heap[w.heap.size]? = some (.cells #[vI 7, vI sub, vI rd, vI rn, vI rm, vI ra, vI imm, vI imm2, vI amount, vI shift, vI cond, vI sys, .bool false, .bool minus, .bool not, .bool link] 25) := (hb.block _ (Array.getElem?_eq_some_iff.1 BX).1).trans BX; replace HB : Hid (Below w.heap.size w w1) := HB.trans (hb.mono HB.size); clear hb HC; dsimp only; have c0 := cell_in BX 0 (v := vI 7) rfl; have c1 := cell_in BX 1 (v := vI sub) rfl; have c2 := cell_in BX 2 (v := vI rd) rfl; have c3 := cell_in BX 3 (v := vI rn) rfl; have c4 := cell_in BX 4 (v := vI rm) rfl; have c5 := cell_in BX 5 (v := vI ra) rfl; have c6 := cell_in BX 6 (v := vI imm) rfl; have c7 := cell_in BX 7 (v := vI imm2) rfl; have c8 := cell_in BX 8 (v := vI amount) rfl; have c9 := cell_in BX 9 (v := vI shift) rfl; have c10 := cell_in BX 10 (v := vI cond) rfl; have c11 := cell_in BX 11 (v := vI sys) rfl; have c12 := cell_in BX 12 (v := .bool false) rfl; have c13 := cell_in BX 13 (v := .bool minus) rfl; have c14 := cell_in BX 14 (v := .bool not) rfl; have c15 := cell_in BX 15 (v := .bool link) rfl) | ((with_reducible refine wpList_load_if rfl 25 _ rfl w.heap.size rfl 25 _ (0, 0) _ BX Try.underlying25 rfl (infoK _ rfl) ?_); simp only [Act.put, List.setIfInBounds_toArray, List.set_cons_succ, List.set_cons_zero]) | (go_at_call 21; refine (lowI_c _ _ (by decide) (by decide) _).mono ?_; rintro e w' ⟨rfl, rfl⟩; dsimp only))
  go_quiet ((first | (go_at_call 21; exact Calls.quiet_of_same (lowI_c _ _ (by decide) (by decide) _)) | (go_at_call 22; exact Calls.quiet_of_same (whenI_c _ _ _))))
  replace c0 : (w'.drewN nq).cell? ⟨w.heap.size, 0, none⟩ = some (vI 7) := c0
  replace c1 : (w'.drewN nq).cell? ⟨w.heap.size, 1, none⟩ = some (vI sub) := c1
  replace c2 : (w'.drewN nq).cell? ⟨w.heap.size, 2, none⟩ = some (vI rd) := c2
  replace c3 : (w'.drewN nq).cell? ⟨w.heap.size, 3, none⟩ = some (vI rn) := c3
  replace c4 : (w'.drewN nq).cell? ⟨w.heap.size, 4, none⟩ = some (vI rm) := c4
  replace c5 : (w'.drewN nq).cell? ⟨w.heap.size, 5, none⟩ = some (vI ra) := c5
  replace c6 : (w'.drewN nq).cell? ⟨w.heap.size, 6, none⟩ = some (vI imm) := c6
  replace c7 : (w'.drewN nq).cell? ⟨w.heap.size, 7, none⟩ = some (vI imm2) := c7
  replace c8 : (w'.drewN nq).cell? ⟨w.heap.size, 8, none⟩ = some (vI amount) := c8
  replace c9 : (w'.drewN nq).cell? ⟨w.heap.size, 9, none⟩ = some (vI shift) := c9
  replace c10 : (w'.drewN nq).cell? ⟨w.heap.size, 10, none⟩ = some (vI cond) := c10
  replace c11 : (w'.drewN nq).cell? ⟨w.heap.size, 11, none⟩ = some (vI sys) := c11
  replace c12 : (w'.drewN nq).cell? ⟨w.heap.size, 12, none⟩ = some (.bool false) := c12
  replace c13 : (w'.drewN nq).cell? ⟨w.heap.size, 13, none⟩ = some (.bool minus) := c13
  replace c14 : (w'.drewN nq).cell? ⟨w.heap.size, 14, none⟩ = some (.bool not) := c14
  replace c15 : (w'.drewN nq).cell? ⟨w.heap.size, 15, none⟩ = some (.bool link) := c15
  replace HB : Hid (Below w.heap.size w (w'.drewN nq)) := below_drewN HB.out nq
  replace BX : (w'.drewN nq).heap[w.heap.size]? = some (.cells #[vI 7, vI sub, vI rd, vI rn, vI rm, vI ra, vI imm, vI imm2, vI amount, vI shift, vI cond, vI sys, .bool false, .bool minus, .bool not, .bool link] 25) := BX
  generalize w'.drewN nq = w2 at *
  go_wp2_with (go_at_call 21; refine (lowI_c _ _ (by decide) (by decide) _).mono ?_; rintro e w' ⟨rfl, rfl⟩; dsimp only)
  go_ret2
  refine ⟨ret_tw ?_, HB.out⟩
  rw [hE.out]
  clear hE HB c0 c1 c2 c3 c4 c5 c6 c7 c8 c9 c10 c11 c12 c13 c14 c15
  replace m0 := m0.out
  replace m1 := m1.out
  replace m2 := m2.out
  omega
set_option maxRecDepth 4000 in
set_option maxHeartbeats 8000000 in
theorem en8 (sub rd rn rm ra imm imm2 amount shift cond sys : Int) (minus not link : Bool) (w : World) (hr : rightB ⟨8, sub, rd, rn, rm, ra, imm, imm2, amount, shift, cond, sys, false, minus, not, link⟩ = true) :
    Calls Try.prog 12 #[(⟨8, sub, rd, rn, rm, ra, imm, imm2, amount, shift, cond, sys, false, minus, not, link⟩ : Ins).val] w fun e w' => e = .returned (.tuple #[.int .u32 (encV ⟨8, sub, rd, rn, rm, ra, imm, imm2, amount, shift, cond, sys, false, minus, not, link⟩).1, .bool true]) ∧ Below w.heap.size w w' := by
  have R := rightF hr
  obtain rfl : sub = 0 := zero_of R.sub
  have hE := (wd7 0 rd rn rm ra imm imm2 amount shift cond sys false minus not link hr).1
  replace hE := show Hid _ from hE
  have HC := rright_c ⟨8, 0, rd, rn, rm, ra, imm, imm2, amount, shift, cond, sys, false, minus, not, link⟩
  rw [hr] at HC
  replace HC := show Hid _ from HC
  clear R hr
  have BX := heap_alloc_new w (.cells #[vI 8, vI 0, vI rd, vI rn, vI rm, vI ra, vI imm, vI imm2, vI amount, vI shift, vI cond, vI sys, .bool false, .bool minus, .bool not, .bool link] 25)
  have HB := below_alloc w (.cells #[vI 8, vI 0, vI rd, vI rn, vI rm, vI ra, vI imm, vI imm2, vI amount, vI shift, vI cond, vI sys, .bool false, .bool minus, .bool not, .bool link] 25)
  have b0 : 0 ≤ lowI rd 5 ∧ lowI rd 5 < 32 := lowI_in _ 5
  have m0 : Hid (lowI rd 5 = rd % 32) := lowI_mod rd 5 (by decide)
  have b1 : 0 ≤ lowI rn 5 ∧ lowI rn 5 < 32 := lowI_in _ 5
  have m1 : Hid (lowI rn 5 = rn % 32) := lowI_mod rn 5 (by decide)
  have b2 : 0 ≤ lowI rm 5 ∧ lowI rm 5 < 32 := lowI_in _ 5
  have m2 : Hid (lowI rm 5 = rm % 32) := lowI_mod rm 5 (by decide)
  have b3 : 0 ≤ lowI ra 5 ∧ lowI ra 5 < 32 := lowI_in _ 5
  have m3 : Hid (lowI ra 5 = ra % 32) := lowI_mod ra 5 (by decide)
  have v0 := when_in minus (x := 1073741824) (by decide)
  have v1 := when_in minus (x := 32768) (by decide)
  have e0 : whenI false 536870912 = 0 := rfl
  skip
  go_enter Try.func12, Try.ntmps12
  go_wp2_with (first | (go_at_call 20; refine (HC.out _).mono ?_; rintro e w1 ⟨rfl, hb⟩; replace BX : w1.heap[w.heap.size]? = some (.cells #[vI 8, vI 0, vI rd, vI rn, vI rm, vI ra, vI imm, vI imm2, vI amount, vI shift, vI cond, vI sys, .bool false, .bool minus, .bool not, .bool link] 25) := (hb.block _ (Array.getElem?_eq_some_iff.1 BX).1).trans BX; replace HB : Hid (Below w.heap.size w w1) := HB.trans (hb.mono HB.size); clear hb HC; dsimp only; have c0 := cell_in BX 0 (v := vI 8) rfl; have c1 := cell_in BX 1 (v := vI 0) rfl; have c2 := cell_in BX 2 (v := vI rd) rfl; have c3 := cell_in BX 3 (v := vI rn) rfl; have c4 := cell_in BX 4 (v := vI rm) rfl; have c5 := cell_in BX 5 (v := vI ra) rfl; have c6 := cell_in BX 6 (v := vI imm) rfl; have c7 := cell_in BX 7 (v := vI imm2) rfl; have c8 := cell_in BX 8 (v := vI amount) rfl; have c9 := cell_in BX 9 (v := vI shift) rfl; have c10 := cell_in BX 10 (v := vI cond) rfl; have c11 := cell_in BX 11 (v := vI sys) rfl; have c12 := cell_in BX 12 (v := .bool false) rfl; have c13 := cell_in BX 13 (v := .bool minus) rfl; have c14 := cell_in BX 14 (v := .bool not) rfl; have c15 := cell_in BX 15 (v := .bool link) rfl) | ((with_reducible refine wpList_load_if rfl 25 _ rfl w.heap.size rfl 25 _ (0, 0) _ BX Try.underlying25 rfl (infoK _ rfl) ?_); simp only [Act.put, List.setIfInBounds_toArray, List.set_cons_succ, List.set_cons_zero]) | (go_at_call 21; refine (lowI_c _ _ (by decide) (by decide) _).mono ?_; rintro e w' ⟨rfl, rfl⟩; dsimp only))
  go_quiet ((first | (go_at_call 21; exact Calls.quiet_of_same (lowI_c _ _ (by decide) (by decide) _)) | (go_at_call 22; exact Calls.quiet_of_same (whenI_c _ _ _))))
  replace c0 : (w'.drewN nq).cell? ⟨w.heap.size, 0, none⟩ = some (vI 8) := c0
  replace c1 : (w'.drewN nq).cell? ⟨w.heap.size, 1, none⟩ = some (vI 0) := c1
  replace c2 : (w'.drewN nq).cell? ⟨w.heap.size, 2, none⟩ = some (vI rd) := c2
  replace c3 : (w'.drewN nq).cell? ⟨w.heap.size, 3, none⟩ = some (vI rn) := c3
  replace c4 : (w'.drewN nq).cell? ⟨w.heap.size, 4, none⟩ = some (vI rm) := c4
  replace c5 : (w'.drewN nq).cell? ⟨w.heap.size, 5, none⟩ = some (vI ra) := c5
  replace c6 : (w'.drewN nq).cell? ⟨w.heap.size, 6, none⟩ = some (vI imm) := c6
  replace c7 : (w'.drewN nq).cell? ⟨w.heap.size, 7, none⟩ = some (vI imm2) := c7
  replace c8 : (w'.drewN nq).cell? ⟨w.heap.size, 8, none⟩ = some (vI amount) := c8
  replace c9 : (w'.drewN nq).cell? ⟨w.heap.size, 9, none⟩ = some (vI shift) := c9
  replace c10 : (w'.drewN nq).cell? ⟨w.heap.size, 10, none⟩ = some (vI cond) := c10
  replace c11 : (w'.drewN nq).cell? ⟨w.heap.size, 11, none⟩ = some (vI sys) := c11
  replace c12 : (w'.drewN nq).cell? ⟨w.heap.size, 12, none⟩ = some (.bool false) := c12
  replace c13 : (w'.drewN nq).cell? ⟨w.heap.size, 13, none⟩ = some (.bool minus) := c13
  replace c14 : (w'.drewN nq).cell? ⟨w.heap.size, 14, none⟩ = some (.bool not) := c14
  replace c15 : (w'.drewN nq).cell? ⟨w.heap.size, 15, none⟩ = some (.bool link) := c15
  replace HB : Hid (Below w.heap.size w (w'.drewN nq)) := below_drewN HB.out nq
  replace BX : (w'.drewN nq).heap[w.heap.size]? = some (.cells #[vI 8, vI 0, vI rd, vI rn, vI rm, vI ra, vI imm, vI imm2, vI amount, vI shift, vI cond, vI sys, .bool false, .bool minus, .bool not, .bool link] 25) := BX
  generalize w'.drewN nq = w2 at *
  clear BX
  go_wp2_with fail
  go_quiet ((first | (go_at_call 21; exact Calls.quiet_of_same (lowI_c _ _ (by decide) (by decide) _)) | (go_at_call 22; exact Calls.quiet_of_same (whenI_c _ _ _))))
  go_wp2
  go_ret2
  refine ⟨ret_tw ?_, below_drewN HB.out _⟩
  rw [hE.out]
  clear hE HB c0 c1 c2 c3 c4 c5 c6 c7 c8 c9 c10 c11 c12 c13 c14 c15
  replace m0 := m0.out
  replace m1 := m1.out
  replace m2 := m2.out
  replace m3 := m3.out
  omega
set_option maxRecDepth 4000 in
set_option maxHeartbeats 8000000 in
theorem en9 (sub rd rn rm ra imm imm2 amount shift cond sys : Int) (minus not link : Bool) (w : World) (hr : rightB ⟨9, sub, rd, rn, rm, ra, imm, imm2, amount, shift, cond, sys, false, minus, not, link⟩ = true) :
    Calls Try.prog 12 #[(⟨9, sub, rd, rn, rm, ra, imm, imm2, amount, shift, cond, sys, false, minus, not, link⟩ : Ins).val] w fun e w' => e = .returned (.tuple #[.int .u32 (encV ⟨9, sub, rd, rn, rm, ra, imm, imm2, amount, shift, cond, sys, false, minus, not, link⟩).1, .bool true]) ∧ Below w.heap.size w w' := by
  have R := rightF hr
  obtain ⟨x0, y0, z0⟩ := holds_of (lo := 0) (hi := 1) (st := 1) (n := sub) R.sub
  clear z0
  have hE := (wd8 sub rd rn rm ra imm imm2 amount shift cond sys false minus not link hr).1
  replace hE := show Hid _ from hE
  have HC := rright_c ⟨9, sub, rd, rn, rm, ra, imm, imm2, amount, shift, cond, sys, false, minus, not, link⟩
  rw [hr] at HC
  replace HC := show Hid _ from HC
  clear R hr
  have BX := heap_alloc_new w (.cells #[vI 9, vI sub, vI rd, vI rn, vI rm, vI ra, vI imm, vI imm2, vI amount, vI shift, vI cond, vI sys, .bool false, .bool minus, .bool not, .bool link] 25)
  have HB := below_alloc w (.cells #[vI 9, vI sub, vI rd, vI rn, vI rm, vI ra, vI imm, vI imm2, vI amount, vI shift, vI cond, vI sys, .bool false, .bool minus, .bool not, .bool link] 25)
  have b0 : 0 ≤ lowI rd 5 ∧ lowI rd 5 < 32 := lowI_in _ 5
  have m0 : Hid (lowI rd 5 = rd % 32) := lowI_mod rd 5 (by decide)
  have b1 : 0 ≤ lowI rn 5 ∧ lowI rn 5 < 32 := lowI_in _ 5
  have m1 : Hid (lowI rn 5 = rn % 32) := lowI_mod rn 5 (by decide)
  have b2 : 0 ≤ lowI rm 5 ∧ lowI rm 5 < 32 := lowI_in _ 5
  have m2 : Hid (lowI rm 5 = rm % 32) := lowI_mod rm 5 (by decide)
  have v0 := when_in minus (x := 1073741824) (by decide)
  have e0 : whenI false 536870912 = 0 := rfl
  skip
  go_enter Try.func12, Try.ntmps12
  go_wp2_with (first | (go_at_call 20; refine (HC.out _).mono ?_; rintro e w1 ⟨rfl, hb⟩; replace BX : w1.heap[w.heap.size]? = some (.cells #[vI 9, vI sub, vI rd, vI rn, vI rm, vI ra, vI imm, vI imm2, vI amount, vI shift, vI cond, vI sys, .bool false, .bool minus, .bool not, .bool link] 25) := (hb.block _ (Array.getElem?_eq_some_iff.1 BX).1).trans BX; replace HB : Hid (Below w.heap.size w w1) := HB.trans (hb.mono HB.size); clear hb HC; dsimp only; have c0 := cell_in BX 0 (v := vI 9) rfl; have c1 := cell_in BX 1 (v := vI sub) rfl; have c2 := cell_in BX 2 (v := vI rd) rfl; have c3 := cell_in BX 3 (v := vI rn) rfl; have c4 := cell_in BX 4 (v := vI rm) rfl; have c5 := cell_in BX 5 (v := vI ra) rfl; have c6 := cell_in BX 6 (v := vI imm) rfl; have c7 := cell_in BX 7 (v := vI imm2) rfl; have c8 := cell_in BX 8 (v := vI amount) rfl; have c9 := cell_in BX 9 (v := vI shift) rfl; have c10 := cell_in BX 10 (v := vI cond) rfl; have c11 := cell_in BX 11 (v := vI sys) rfl; have c12 := cell_in BX 12 (v := .bool false) rfl; have c13 := cell_in BX 13 (v := .bool minus) rfl; have c14 := cell_in BX 14 (v := .bool not) rfl; have c15 := cell_in BX 15 (v := .bool link) rfl) | ((with_reducible refine wpList_load_if rfl 25 _ rfl w.heap.size rfl 25 _ (0, 0) _ BX Try.underlying25 rfl (infoK _ rfl) ?_); simp only [Act.put, List.setIfInBounds_toArray, List.set_cons_succ, List.set_cons_zero]) | (go_at_call 21; refine (lowI_c _ _ (by decide) (by decide) _).mono ?_; rintro e w' ⟨rfl, rfl⟩; dsimp only))
  go_quiet ((first | (go_at_call 21; exact Calls.quiet_of_same (lowI_c _ _ (by decide) (by decide) _)) | (go_at_call 22; exact Calls.quiet_of_same (whenI_c _ _ _))))
  replace c0 : (w'.drewN nq).cell? ⟨w.heap.size, 0, none⟩ = some (vI 9) := c0
  replace c1 : (w'.drewN nq).cell? ⟨w.heap.size, 1, none⟩ = some (vI sub) := c1
  replace c2 : (w'.drewN nq).cell? ⟨w.heap.size, 2, none⟩ = some (vI rd) := c2
  replace c3 : (w'.drewN nq).cell? ⟨w.heap.size, 3, none⟩ = some (vI rn) := c3
  replace c4 : (w'.drewN nq).cell? ⟨w.heap.size, 4, none⟩ = some (vI rm) := c4
  replace c5 : (w'.drewN nq).cell? ⟨w.heap.size, 5, none⟩ = some (vI ra) := c5
  replace c6 : (w'.drewN nq).cell? ⟨w.heap.size, 6, none⟩ = some (vI imm) := c6
  replace c7 : (w'.drewN nq).cell? ⟨w.heap.size, 7, none⟩ = some (vI imm2) := c7
  replace c8 : (w'.drewN nq).cell? ⟨w.heap.size, 8, none⟩ = some (vI amount) := c8
  replace c9 : (w'.drewN nq).cell? ⟨w.heap.size, 9, none⟩ = some (vI shift) := c9
  replace c10 : (w'.drewN nq).cell? ⟨w.heap.size, 10, none⟩ = some (vI cond) := c10
  replace c11 : (w'.drewN nq).cell? ⟨w.heap.size, 11, none⟩ = some (vI sys) := c11
  replace c12 : (w'.drewN nq).cell? ⟨w.heap.size, 12, none⟩ = some (.bool false) := c12
  replace c13 : (w'.drewN nq).cell? ⟨w.heap.size, 13, none⟩ = some (.bool minus) := c13
  replace c14 : (w'.drewN nq).cell? ⟨w.heap.size, 14, none⟩ = some (.bool not) := c14
  replace c15 : (w'.drewN nq).cell? ⟨w.heap.size, 15, none⟩ = some (.bool link) := c15
  replace HB : Hid (Below w.heap.size w (w'.drewN nq)) := below_drewN HB.out nq
  replace BX : (w'.drewN nq).heap[w.heap.size]? = some (.cells #[vI 9, vI sub, vI rd, vI rn, vI rm, vI ra, vI imm, vI imm2, vI amount, vI shift, vI cond, vI sys, .bool false, .bool minus, .bool not, .bool link] 25) := BX
  generalize w'.drewN nq = w2 at *
  go_wp2_with (go_at_call 21; refine (lowI_c _ _ (by decide) (by decide) _).mono ?_; rintro e w' ⟨rfl, rfl⟩; dsimp only)
  go_ret2
  refine ⟨ret_tw ?_, HB.out⟩
  rw [hE.out]
  clear hE HB c0 c1 c2 c3 c4 c5 c6 c7 c8 c9 c10 c11 c12 c13 c14 c15
  replace m0 := m0.out
  replace m1 := m1.out
  replace m2 := m2.out
  omega
set_option maxRecDepth 4000 in
set_option maxHeartbeats 8000000 in
theorem en10 (sub rd rn rm ra imm imm2 amount shift cond sys : Int) (minus not link : Bool) (w : World) (hr : rightB ⟨10, sub, rd, rn, rm, ra, imm, imm2, amount, shift, cond, sys, false, minus, not, link⟩ = true) :
    Calls Try.prog 12 #[(⟨10, sub, rd, rn, rm, ra, imm, imm2, amount, shift, cond, sys, false, minus, not, link⟩ : Ins).val] w fun e w' => e = .returned (.tuple #[.int .u32 (encV ⟨10, sub, rd, rn, rm, ra, imm, imm2, amount, shift, cond, sys, false, minus, not, link⟩).1, .bool true]) ∧ Below w.heap.size w w' := by
  have R := rightF hr
  obtain ⟨x0, y0, z0⟩ := holds_of (lo := 0) (hi := 3) (st := 1) (n := sub) R.sub
  clear z0
  obtain ⟨x1, y1, z1⟩ := holds_of (lo := 0) (hi := 15) (st := 1) (n := cond) R.cond
  clear z1
  have hE := (wd9 sub rd rn rm ra imm imm2 amount shift cond sys false minus not link hr).1
  have nn0 : sub.tdiv 2 = sub / 2 := Int.tdiv_eq_ediv_of_nonneg (by omega)
  have nn1 : sub.tmod 2 = sub % 2 := Int.tmod_eq_emod_of_nonneg (by omega)
  rw [nn0] at hE
  rw [nn1] at hE
  clear nn0 nn1
  replace hE := show Hid _ from hE
  have HC := rright_c ⟨10, sub, rd, rn, rm, ra, imm, imm2, amount, shift, cond, sys, false, minus, not, link⟩
  rw [hr] at HC
  replace HC := show Hid _ from HC
  clear R hr
  have BX := heap_alloc_new w (.cells #[vI 10, vI sub, vI rd, vI rn, vI rm, vI ra, vI imm, vI imm2, vI amount, vI shift, vI cond, vI sys, .bool false, .bool minus, .bool not, .bool link] 25)
  have HB := below_alloc w (.cells #[vI 10, vI sub, vI rd, vI rn, vI rm, vI ra, vI imm, vI imm2, vI amount, vI shift, vI cond, vI sys, .bool false, .bool minus, .bool not, .bool link] 25)
  have b0 : 0 ≤ lowI rd 5 ∧ lowI rd 5 < 32 := lowI_in _ 5
  have m0 : Hid (lowI rd 5 = rd % 32) := lowI_mod rd 5 (by decide)
  have b1 : 0 ≤ lowI rn 5 ∧ lowI rn 5 < 32 := lowI_in _ 5
  have m1 : Hid (lowI rn 5 = rn % 32) := lowI_mod rn 5 (by decide)
  have b2 : 0 ≤ lowI rm 5 ∧ lowI rm 5 < 32 := lowI_in _ 5
  have m2 : Hid (lowI rm 5 = rm % 32) := lowI_mod rm 5 (by decide)
  have b3 : 0 ≤ lowI cond 4 ∧ lowI cond 4 < 16 := lowI_in _ 4
  have m3 : Hid (lowI cond 4 = cond % 16) := lowI_mod cond 4 (by decide)
  have v0 := when_in minus (x := 1073741824) (by decide)
  have e0 : whenI false 536870912 = 0 := rfl
  skip
  go_enter Try.func12, Try.ntmps12
  go_wp2_with (first | (go_at_call 20; refine (HC.out _).mono ?_; rintro e w1 ⟨rfl, hb⟩; replace BX : w1.heap[w.heap.size]? = some (.cells #[vI 10, vI sub, vI rd, vI rn, vI rm, vI ra, vI imm, vI imm2, vI amount, vI shift, vI cond, vI sys, .bool false, .bool minus, .bool not, .bool link] 25) := (hb.block _ (Array.getElem?_eq_some_iff.1 BX).1).trans BX; replace HB : Hid (Below w.heap.size w w1) := HB.trans (hb.mono HB.size); clear hb HC; dsimp only; have c0 := cell_in BX 0 (v := vI 10) rfl; have c1 := cell_in BX 1 (v := vI sub) rfl; have c2 := cell_in BX 2 (v := vI rd) rfl; have c3 := cell_in BX 3 (v := vI rn) rfl; have c4 := cell_in BX 4 (v := vI rm) rfl; have c5 := cell_in BX 5 (v := vI ra) rfl; have c6 := cell_in BX 6 (v := vI imm) rfl; have c7 := cell_in BX 7 (v := vI imm2) rfl; have c8 := cell_in BX 8 (v := vI amount) rfl; have c9 := cell_in BX 9 (v := vI shift) rfl; have c10 := cell_in BX 10 (v := vI cond) rfl; have c11 := cell_in BX 11 (v := vI sys) rfl; have c12 := cell_in BX 12 (v := .bool false) rfl; have c13 := cell_in BX 13 (v := .bool minus) rfl; have c14 := cell_in BX 14 (v := .bool not) rfl; have c15 := cell_in BX 15 (v := .bool link) rfl) | ((with_reducible refine wpList_load_if rfl 25 _ rfl w.heap.size rfl 25 _ (0, 0) _ BX Try.underlying25 rfl (infoK _ rfl) ?_); simp only [Act.put, List.setIfInBounds_toArray, List.set_cons_succ, List.set_cons_zero]) | (go_at_call 21; refine (lowI_c _ _ (by decide) (by decide) _).mono ?_; rintro e w' ⟨rfl, rfl⟩; dsimp only))
  go_quiet ((first | (go_at_call 21; exact Calls.quiet_of_same (lowI_c _ _ (by decide) (by decide) _)) | (go_at_call 22; exact Calls.quiet_of_same (whenI_c _ _ _))))
  replace c0 : (w'.drewN nq).cell? ⟨w.heap.size, 0, none⟩ = some (vI 10) := c0
  replace c1 : (w'.drewN nq).cell? ⟨w.heap.size, 1, none⟩ = some (vI sub) := c1
  replace c2 : (w'.drewN nq).cell? ⟨w.heap.size, 2, none⟩ = some (vI rd) := c2
  replace c3 : (w'.drewN nq).cell? ⟨w.heap.size, 3, none⟩ = some (vI rn) := c3
  replace c4 : (w'.drewN nq).cell? ⟨w.heap.size, 4, none⟩ = some (vI rm) := c4
  replace c5 : (w'.drewN nq).cell? ⟨w.heap.size, 5, none⟩ = some (vI ra) := c5
  replace c6 : (w'.drewN nq).cell? ⟨w.heap.size, 6, none⟩ = some (vI imm) := c6
  replace c7 : (w'.drewN nq).cell? ⟨w.heap.size, 7, none⟩ = some (vI imm2) := c7
  replace c8 : (w'.drewN nq).cell? ⟨w.heap.size, 8, none⟩ = some (vI amount) := c8
  replace c9 : (w'.drewN nq).cell? ⟨w.heap.size, 9, none⟩ = some (vI shift) := c9
  replace c10 : (w'.drewN nq).cell? ⟨w.heap.size, 10, none⟩ = some (vI cond) := c10
  replace c11 : (w'.drewN nq).cell? ⟨w.heap.size, 11, none⟩ = some (vI sys) := c11
  replace c12 : (w'.drewN nq).cell? ⟨w.heap.size, 12, none⟩ = some (.bool false) := c12
  replace c13 : (w'.drewN nq).cell? ⟨w.heap.size, 13, none⟩ = some (.bool minus) := c13
  replace c14 : (w'.drewN nq).cell? ⟨w.heap.size, 14, none⟩ = some (.bool not) := c14
  replace c15 : (w'.drewN nq).cell? ⟨w.heap.size, 15, none⟩ = some (.bool link) := c15
  replace HB : Hid (Below w.heap.size w (w'.drewN nq)) := below_drewN HB.out nq
  replace BX : (w'.drewN nq).heap[w.heap.size]? = some (.cells #[vI 10, vI sub, vI rd, vI rn, vI rm, vI ra, vI imm, vI imm2, vI amount, vI shift, vI cond, vI sys, .bool false, .bool minus, .bool not, .bool link] 25) := BX
  generalize w'.drewN nq = w2 at *
  go_wp2_with (go_at_call 21; refine (lowI_c _ _ (by decide) (by decide) _).mono ?_; rintro e w' ⟨rfl, rfl⟩; dsimp only)
  go_ret2
  refine ⟨ret_tw ?_, HB.out⟩
  rw [hE.out]
  clear hE HB c0 c1 c2 c3 c4 c5 c6 c7 c8 c9 c10 c11 c12 c13 c14 c15
  replace m0 := m0.out
  replace m1 := m1.out
  replace m2 := m2.out
  replace m3 := m3.out
  omega
end Go.Proofs.Ytcmilajlngnibaa
