/- Bm, Bn of the seat, joined. -/
import Derived.Test.YteklkololojamaaGreatBl
/- The chapter's example, reckoned. -/
namespace Go.Proofs.YteklkololojamaaGreat
open Go.RowKit
set_option linter.unusedVariables false
set_option linter.unusedSimpArgs false
set_option maxRecDepth 8000

theorem pow64 : (2 : Nat) ^ 64 = 18446744073709551616 := by decide
def kn1 : Bs := bwrS 2 newS 1 134217728 1099511627778
def kn2 : Bs := bsetS 2 kn1 0 1 18013 1099595513856
def kn3 : Bs := bsetS 2 kn2 1 0 24346 3
def kn4 : Bs := bsetS 2 kn3 1 0 24345 1
def kn5 : Bs := tickS 2 kn4 3
def kn6 : Bs := bwrS 2 kn5 0 150994944 321
theorem f1 : brdE 2 1 134217728 = 0 := by kernel_rfl
theorem f2 : brdV 2 kn1 1 134217728 = 1099511627778 := by kernel_rfl
theorem f3 : brdV 2 kn1 0 134217728 = 1099511627776 := by kernel_rfl
theorem f4 : brdE 2 0 134217728 = 0 := by kernel_rfl
theorem f5 : brdE 2 0 134219264 = 1 := by kernel_rfl
theorem f5v : brdV 2 kn1 0 134219264 = 0 := by kernel_rfl
theorem f6 : bsetE 2 0 1 18013 = 0 := by kernel_rfl
theorem f7 : bsetE 2 1 0 24346 = 0 := by kernel_rfl
theorem f8 : bsetE 2 1 0 24345 = 0 := by kernel_rfl
theorem f9 : bsysE 2 1 0 18016 = 2 := by kernel_rfl
theorem f9v : bsysV 2 kn5 1 0 18016 = 0 := by kernel_rfl
theorem f9s : bsysS 2 kn5 1 0 18016 = kn5 := by kernel_rfl
theorem f10 : brdE 2 0 150994944 = 0 := by kernel_rfl
theorem p05 : ((lookV 2 kn6.P 0 5).l || (lookV 2 kn6.P 0 5).h) = false := by kernel_rfl
theorem p15 : ((lookV 2 kn6.P 1 5).l || (lookV 2 kn6.P 1 5).h) = true := by kernel_rfl
theorem p127 : ((lookV 2 kn6.P 1 27).l || (lookV 2 kn6.P 1 27).h) = true := by kernel_rfl
theorem kO : strOfNums kn6.O = ⟨#[65]⟩ := by kernel_rfl
theorem kw0 : ∀ c, c < 2 → (kn5.P.wk c).length + 1 < 1000000 := by
  intro c hc
  match c, hc with
  | 0, _ => exact of_decide_eq_true (by kernel_rfl)
  | 1, _ => exact of_decide_eq_true (by kernel_rfl)
end Go.Proofs.YteklkololojamaaGreat
/- The chapter's example, walked. -/
namespace Go.Proofs.YteklkololojamaaGreat
open Go.RowKit
set_option linter.unusedVariables false
set_option linter.unusedSimpArgs false
set_option maxRecDepth 8000

set_option maxHeartbeats 4000000 in
theorem known_c (w : World) : Calls Tryz.prog 8 #[] w fun e w' => e = .returned (.bool true) ∧ Below w.heap.size w w' := by
  have hnew : Calls Tryz.prog 9 #[vI 2] w fun e w' => ∃ b, e = .returned (.tuple #[ptr b 0, vI 0]) ∧ ∃ g t, BW w.heap.size w b g t 2 newS w' := bnew_c 2 (by decide) (by decide) w
  go_enter Tryz.func8, Tryz.ntmps8
  go_upto_region 4 with (first | (go_at_call 9; refine hnew.mono ?_; rintro e w1 ⟨b, rfl, g, t, Y, K⟩; dsimp only) | (go_at_call 26; refine (bgic_c K.at_).mono ?_; rintro e w' ⟨rfl, rfl⟩; dsimp only) | (go_at_call 29; refine (btim_c K.at_).mono ?_; rintro e w' ⟨rfl, rfl⟩; dsimp only))
  clear hnew
  have hm : Calls Tryz.prog 16 #[ptr b 0, vI 1, vU 134217728, vU 1099511627778] _ _ := bwrite_c K.at_ 1 134217728 1099511627778 (by decide)
  rw [f1] at hm
  go_upto_region 5 with (first | (go_at_call 16; refine hm.mono ?_; rintro e w2 ⟨rfl, hT⟩; dsimp only))
  obtain ⟨Y1, K2⟩ := K.bt hT
  clear hT K
  have K : BK w.heap.size w b g t 2 kn1 Y1 w2 := K2
  clear K2
  skip
  clear hm
  have hm : Calls Tryz.prog 13 #[ptr b 0, vI 1, vU 134217728] _ _ := bread_c K.at_ 1 134217728
  rw [f1, f2] at hm
  go_upto_region 6 with (first | (go_at_call 13; refine hm.mono ?_; rintro e w2 ⟨rfl, hB⟩; dsimp only))
  replace K := K.grow hB
  clear hB
  clear hm
  have hm : Calls Tryz.prog 13 #[ptr b 0, vI 0, vU 134217728] _ _ := bread_c K.at_ 0 134217728
  rw [f3, f4] at hm
  go_upto_region 7 with (first | (go_at_call 13; refine hm.mono ?_; rintro e w2 ⟨rfl, hB⟩; dsimp only))
  replace K := K.grow hB
  clear hB
  clear hm
  have hm : Calls Tryz.prog 13 #[ptr b 0, vI 0, vU 134219264] _ _ := bread_c K.at_ 0 134219264
  rw [f5, f5v] at hm
  go_upto_region 8 with (first | (go_at_call 13; refine hm.mono ?_; rintro e w2 ⟨rfl, hB⟩; dsimp only))
  replace K := K.grow hB
  clear hB
  clear hm
  have hm : Calls Tryz.prog 20 #[ptr b 0, vI 0, vI 1, vI 18013, vU 1099595513856] _ _ := bset_c K.at_ 0 1 18013 1099595513856 (by decide)
  rw [f6] at hm
  go_upto_region 9 with (first | (go_at_call 20; refine hm.mono ?_; rintro e w2 ⟨rfl, hT⟩; dsimp only))
  obtain ⟨Y2, K2⟩ := K.bt hT
  clear hT K
  have K : BK w.heap.size w b g t 2 kn2 Y2 w2 := K2
  clear K2
  skip
  clear hm
  have hm : Calls Tryz.prog 20 #[ptr b 0, vI 1, vI 0, vI 24346, vU 3] _ _ := bset_c K.at_ 1 0 24346 3 (by decide)
  rw [f7] at hm
  go_upto_region 10 with (first | (go_at_call 20; refine hm.mono ?_; rintro e w2 ⟨rfl, hT⟩; dsimp only))
  obtain ⟨Y3, K2⟩ := K.bt hT
  clear hT K
  have K : BK w.heap.size w b g t 2 kn3 Y3 w2 := K2
  clear K2
  skip
  clear hm
  have hm : Calls Tryz.prog 20 #[ptr b 0, vI 1, vI 0, vI 24345, vU 1] _ _ := bset_c K.at_ 1 0 24345 1 (by decide)
  rw [f8] at hm
  go_upto_region 11 with (first | (go_at_call 20; refine hm.mono ?_; rintro e w2 ⟨rfl, hT⟩; dsimp only))
  obtain ⟨Y4, K2⟩ := K.bt hT
  clear hT K
  have K : BK w.heap.size w b g t 2 kn4 Y4 w2 := K2
  clear K2
  skip
  clear hm
  have hm : Calls Tryz.prog 22 #[ptr b 0, vU 3] _ _ := btick_c K.at_ 3
  go_upto_region 12 with (first | (go_at_call 22; refine hm.mono ?_; rintro e w2 ⟨rfl, hT⟩; dsimp only))
  obtain ⟨Y5, K2⟩ := K.bt hT
  clear hT K
  have K : BK w.heap.size w b g t 2 kn5 Y5 w2 := K2
  clear K2
  skip
  clear hm
  have hm : Calls Tryz.prog 17 #[ptr b 0, vI 1, vI 0, vI 18016] _ _ := bsys_c K.at_ 1 0 18016 kw0
  rw [f9, f9v, f9s] at hm
  go_upto_region 13 with (first | (go_at_call 17; refine hm.mono ?_; rintro e w2 ⟨rfl, hT⟩; dsimp only))
  obtain ⟨Y6, K2⟩ := K.bt hT
  clear hT K
  have K : BK w.heap.size w b g t 2 kn5 Y6 w2 := K2
  clear K2
  skip
  clear hm
  have hm : Calls Tryz.prog 16 #[ptr b 0, vI 0, vU 150994944, vU 321] _ _ := bwrite_c K.at_ 0 150994944 321 (by decide)
  rw [f10] at hm
  go_upto_region 14 with (first | (go_at_call 16; refine hm.mono ?_; rintro e w2 ⟨rfl, hT⟩; dsimp only))
  obtain ⟨Y7, K2⟩ := K.bt hT
  clear hT K
  have K : BK w.heap.size w b g t 2 kn6 Y7 w2 := K2
  clear K2
  skip
  clear hm
  go_wp2_with (first | (go_at_call 26; refine (bgic_c K.at_).mono ?_; rintro e w' ⟨rfl, rfl⟩; dsimp only) | (go_at_call 37; refine (pending_c K.at_.gic _ _).mono ?_; rintro e w3 ⟨rfl, hB⟩; replace K := K.grow hB; clear hB; dsimp only; first | rw [p05] | rw [p15] | rw [p127]) | (go_at_call 33; refine (bout_c K.at_).mono ?_; rintro e w' ⟨rfl, rfl⟩; dsimp only; rw [kO]))
  go_ret
  exact ⟨rfl, K.below⟩
end Go.Proofs.YteklkololojamaaGreat
