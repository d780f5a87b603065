/- The chapter's example, reckoned. -/
import Derived.Test.YteklkololojamaaGreatBl
namespace Go.Proofs.YteklkololojamaaGreat
open Go.RowKit
set_option linter.unusedVariables false
set_option linter.unusedSimpArgs false
set_option maxRecDepth 8000

theorem pow64 : (2 : Nat) ^ 64 = 18446744073709551616 := by decide
def kn1 : Bs := bwrS 2 newS 1 134217728 1099511627778
def kn2 : Bs := bsetS 2 kn1 0 1 18013 1099595513856
def kn3 : Bs := bsetS 2 kn2 1 0 24346 3
def kn4 : Bs := bsetS 2 kn3 1 0 24345 1
def kn5 : Bs := tickS 2 kn4 3
def kn6 : Bs := bwrS 2 kn5 0 150994944 321
theorem f1 : brdE 2 1 134217728 = 0 := by kernel_rfl
theorem f2 : brdV 2 kn1 1 134217728 = 1099511627778 := by kernel_rfl
theorem f3 : brdV 2 kn1 0 134217728 = 1099511627776 := by kernel_rfl
theorem f4 : brdE 2 0 134217728 = 0 := by kernel_rfl
theorem f5 : brdE 2 0 134219264 = 1 := by kernel_rfl
theorem f5v : brdV 2 kn1 0 134219264 = 0 := by kernel_rfl
theorem f6 : bsetE 2 0 1 18013 = 0 := by kernel_rfl
theorem f7 : bsetE 2 1 0 24346 = 0 := by kernel_rfl
theorem f8 : bsetE 2 1 0 24345 = 0 := by kernel_rfl
theorem f9 : bsysE 2 1 0 18016 = 2 := by kernel_rfl
theorem f9v : bsysV 2 kn5 1 0 18016 = 0 := by kernel_rfl
theorem f9s : bsysS 2 kn5 1 0 18016 = kn5 := by kernel_rfl
theorem f10 : brdE 2 0 150994944 = 0 := by kernel_rfl
theorem p05 : ((lookV 2 kn6.P 0 5).l || (lookV 2 kn6.P 0 5).h) = false := by kernel_rfl
theorem p15 : ((lookV 2 kn6.P 1 5).l || (lookV 2 kn6.P 1 5).h) = true := by kernel_rfl
theorem p127 : ((lookV 2 kn6.P 1 27).l || (lookV 2 kn6.P 1 27).h) = true := by kernel_rfl
theorem kO : strOfNums kn6.O = ⟨#[65]⟩ := by kernel_rfl
theorem kw0 : ∀ c, c < 2 → (kn5.P.wk c).length + 1 < 1000000 := by
  intro c hc
  match c, hc with
  | 0, _ => exact of_decide_eq_true (by kernel_rfl)
  | 1, _ => exact of_decide_eq_true (by kernel_rfl)
end Go.Proofs.YteklkololojamaaGreat
