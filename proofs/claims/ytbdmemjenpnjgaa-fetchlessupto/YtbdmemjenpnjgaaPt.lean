/- What the notes so far tell, in memory: keys. -/
import Derived.Test.YtbdmemjenpnjgaaFb
import Derived.Test.YtbdmemjenpnjgaaMf
namespace Go.Proofs.Ytbdmemjenpnjgaa
open Go.RowKit
set_option linter.unusedVariables false
set_option linter.unusedSimpArgs false
set_option maxRecDepth 8000

open Go.Shelf Go.Maps
theorem law23 : Keyed Try.prog 23 := int_keyed Try.underlying23
theorem law24 : Keyed Try.prog 24 := int_keyed Try.underlying24
theorem laidOut : laidOutB Try.prog = true := by kernel_rfl
theorem row73 : (73 : TypeId) < Try.prog.types.size := of_decide_eq_true (by kernel_rfl)
theorem wide73 : (match Try.prog.underlying 73 with | some (.array _ _) | some (.struct _) => true | _ => false) = true := by rw [Try.underlying73]
theorem law73 : Keyed Try.prog 73 := Keyed.of_law (deep_law_laid laidOut (m := 2) (by omega) row73 (by kernel_rfl) wide73)
theorem wf64 {a : Nat} (h : a < 18446744073709551616) : (Lit.int .u64 (a : Int)).wf = true := by
  exact WalkArith.wf_u64 (by omega)
theorem wf32 {a : Nat} (h : a < 4294967296) : (Lit.int .u32 (a : Int)).wf = true := by
  exact WalkArith.wf_u32 (by omega)
theorem key64 {a : Nat} (h : a < 18446744073709551616) : keyOf Try.prog 23 (vU a) = some (.int .u64 a) := keyOf_int_mk Try.underlying23 (wf64 h)
theorem key32 {a : Nat} (h : a < 4294967296) : keyOf Try.prog 24 (v32 a) = some (.int .u32 a) := keyOf_int_mk Try.underlying24 (wf32 h)
theorem key73 {a x : Nat} (h : a < 18446744073709551616) (hx : x < 4294967296) : ∃ kl, keyOf Try.prog 73 (.agg #[vU a, v32 x]) = some kl := by
  have h1 := wf64 h
  have h2 := wf32 hx
  obtain ⟨m, hm⟩ : ∃ m, Try.prog.types.size = m + 1 := ⟨Try.prog.types.size - 1, by have : 73 < Try.prog.types.size := row73; omega⟩
  have hk : Try.prog.keyType 73 = true := by kernel_rfl
  have hc : Try.prog.cellsOf 73 = 2 := by kernel_rfl
  have hc1 : Try.prog.cellsOf 23 = 1 := by kernel_rfl
  have hc2 : Try.prog.cellsOf 24 = 1 := by kernel_rfl
  have hf : (Value.agg #[vU a, v32 x]).formed Try.prog 73 = true := by simp [Value.formed, Try.underlying73, hc]
  unfold keyOf
  rw [Try.underlying73]
  simp only [hk, hf, Bool.and_self, if_true, hm]
  simp [Program.keyLits, Try.underlying73, Try.underlying23, Try.underlying24, hc, hc1, hc2, Value.cells, h1, h2]
theorem zero48 (w : World) : (zeroValue 48).run Try.prog w = .ok (.slice none 0 0) w := by kernel_rfl
theorem zero3 (w : World) : (zeroValue 3).run Try.prog w = .ok (vI 0) w := by kernel_rfl
theorem zero75 (w : World) : (zeroValue 75).run Try.prog w = .ok (.agg #[]) w := by kernel_rfl
end Go.Proofs.Ytbdmemjenpnjgaa
