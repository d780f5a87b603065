/- What a second number that is shifted is, and what Bitfield, ShiftReg and Multiply do to a step: contracts. -/
import Derived.Test.YtbjcdpmhmebjnaaGreatD15
import Derived.Test.YtbjcdpmhmebjnaaGreatD16
import Derived.Test.YtbjcdpmhmebjnaaGreatD04
namespace Go.Proofs.YtbjcdpmhmebjnaaGreat
open Go.RowKit
set_option linter.unusedVariables false

theorem rem64 {y : Int} (h : U64 y) : y.tmod 64 = y % 64 := by
  have := h.1; exact Int.tmod_eq_emod_of_nonneg (by omega)
theorem rem64c (y : Int) : IntKind.i64.wrap (y % 64) = y % 64 := by
  rw [IntKind.wrap_i64]; omega
theorem reckon_c (k a b : Int) (ha : Hid (U64 a)) (hb : Hid (U64 b)) (w : World) : Calls Tryz.prog 202 #[.int .i64 k, .int .u64 a, .int .u64 b] w fun e w' => e = .returned (.int .u64 (reckonV k a b)) ∧ Below w.heap.size w w' := by
  go_enter Tryz.func202, Tryz.ntmps202
  go_wp2_with (go_at_call 238; refine (Reckon_c k a b ha hb _).mono ?_; rintro e w1 ⟨rfl, hB⟩; dsimp only)
  go_ret
  exact ⟨rfl, hB⟩
set_option maxRecDepth 4000 in
set_option maxHeartbeats 2000000 in
theorem stShifted_c (g : Nat) (i : Ins) (c : Cor) (k : Gt) (e : Int) (w : World) (h : w.heap[g]? = some (.cells (Stp.cells ⟨i, c, k, e⟩) 58)) (X Z z : Int) (hX : xV c i.rm = X) (hU : Hid (U64 X)) (hZ : shiftV X i.shift i.amount = Z) (hz : shiftE i.shift i.amount = z) : Calls Tryz.prog 197 #[.pointer (some ⟨g, 0, none⟩)] w fun e2 w' => e2 = .returned (.int .u64 Z) ∧ w'.heap[g]? = some (.cells (Stp.cells ⟨i, c, k, e⟩) 58) ∧ But g w w' := by
  go_enter Tryz.func197, Tryz.ntmps197
  go_upto_region 1 with fail
  refine Chn.wp_region_chain (Ph g i (fun _ => c) k e w) [6, 17] [(.pointer (some ⟨g, 0, none⟩)), (.pointer (some ⟨g, 0, none⟩)), (.pointer (some ⟨g, 0, none⟩)), (.pointer (some ⟨g, 0, none⟩)), (.pointer (some ⟨g, 4, none⟩)), (.int .i64 i.rm), (.int .u64 X), (.pointer (some ⟨g, 0, none⟩)), (.pointer (some ⟨g, 0, none⟩)), (.pointer (some ⟨g, 0, none⟩)), (.pointer (some ⟨g, 9, none⟩)), (.int .i64 i.shift), (.pointer (some ⟨g, 0, none⟩)), (.pointer (some ⟨g, 0, none⟩)), (.pointer (some ⟨g, 0, none⟩)), (.pointer (some ⟨g, 8, none⟩)), (.int .i64 i.amount), (.tuple #[.int .u64 Z, .int .i64 z]), (.tuple #[.int .u64 Z, .int .i64 z]), (.int .u64 Z), (.int .i64 z), (.int .u64 Z), (.int .i64 z)] (by kernel_rfl) (by kernel_rfl) (by kernel_rfl) (by kernel_rfl) (ph_start h) ?_
  refine ⟨fun j w1 hC => by exact Chn.upon_pure hC (fun F hF => by (go_simp <;> exact hF)), ?_⟩
  simp only [Act.put, List.setIfInBounds_toArray, List.set_cons_succ, List.set_cons_zero]
  refine ⟨fun j w1 hC => by exact Chn.upon_pure hC (fun F hF => by (go_simp <;> exact hF)), ?_⟩
  simp only [Act.put, List.setIfInBounds_toArray, List.set_cons_succ, List.set_cons_zero]
  refine ⟨fun j w1 hC => by exact Chn.upon_pure hC (fun F hF => by (go_simp <;> exact hF)), ?_⟩
  simp only [Act.put, List.setIfInBounds_toArray, List.set_cons_succ, List.set_cons_zero]
  refine ⟨fun j w1 hC => by exact Chn.upon_pure hC (fun F hF => by (go_simp <;> exact hF)), ?_⟩
  simp only [Act.put, List.setIfInBounds_toArray, List.set_cons_succ, List.set_cons_zero]
  refine ⟨fun j w1 hC => by exact Chn.upon_pure hC (fun F hF => by (go_simp <;> exact hF)), ?_⟩
  simp only [Act.put, List.setIfInBounds_toArray, List.set_cons_succ, List.set_cons_zero]
  refine ⟨fun j w1 hC => by have hq := at_i hC.1 4 (.int .i64 i.rm) (by decide) rfl; exact Chn.upon_pure hC (fun F hF => by (go_simp <;> exact hF)), ?_⟩
  simp only [Act.put, List.setIfInBounds_toArray, List.set_cons_succ, List.set_cons_zero]
  refine ⟨fun w1 hC => by exact Chn.upon_call (sx_c g ⟨i, c, k, e⟩ i.rm w1 hC.1) (fun e2 w2 hh => ⟨by rw [hh.1]; show _ = Ending.returned (.int .u64 X); rw [← hX], hC.same rfl hh.2⟩) (fun F hF => by (go_simp <;> exact hF)), ?_⟩
  simp only [Act.put, List.setIfInBounds_toArray, List.set_cons_succ, List.set_cons_zero]
  refine ⟨fun j w1 hC => by exact Chn.upon_pure hC (fun F hF => by (go_simp <;> exact hF)), ?_⟩
  simp only [Act.put, List.setIfInBounds_toArray, List.set_cons_succ, List.set_cons_zero]
  refine ⟨fun j w1 hC => by exact Chn.upon_pure hC (fun F hF => by (go_simp <;> exact hF)), ?_⟩
  simp only [Act.put, List.setIfInBounds_toArray, List.set_cons_succ, List.set_cons_zero]
  refine ⟨fun j w1 hC => by exact Chn.upon_pure hC (fun F hF => by (go_simp <;> exact hF)), ?_⟩
  simp only [Act.put, List.setIfInBounds_toArray, List.set_cons_succ, List.set_cons_zero]
  refine ⟨fun j w1 hC => by exact Chn.upon_pure hC (fun F hF => by (go_simp <;> exact hF)), ?_⟩
  simp only [Act.put, List.setIfInBounds_toArray, List.set_cons_succ, List.set_cons_zero]
  refine ⟨fun j w1 hC => by have hq := at_i hC.1 9 (.int .i64 i.shift) (by decide) rfl; exact Chn.upon_pure hC (fun F hF => by (go_simp <;> exact hF)), ?_⟩
  simp only [Act.put, List.setIfInBounds_toArray, List.set_cons_succ, List.set_cons_zero]
  refine ⟨fun j w1 hC => by exact Chn.upon_pure hC (fun F hF => by (go_simp <;> exact hF)), ?_⟩
  simp only [Act.put, List.setIfInBounds_toArray, List.set_cons_succ, List.set_cons_zero]
  refine ⟨fun j w1 hC => by exact Chn.upon_pure hC (fun F hF => by (go_simp <;> exact hF)), ?_⟩
  simp only [Act.put, List.setIfInBounds_toArray, List.set_cons_succ, List.set_cons_zero]
  refine ⟨fun j w1 hC => by exact Chn.upon_pure hC (fun F hF => by (go_simp <;> exact hF)), ?_⟩
  simp only [Act.put, List.setIfInBounds_toArray, List.set_cons_succ, List.set_cons_zero]
  refine ⟨fun j w1 hC => by exact Chn.upon_pure hC (fun F hF => by (go_simp <;> exact hF)), ?_⟩
  simp only [Act.put, List.setIfInBounds_toArray, List.set_cons_succ, List.set_cons_zero]
  refine ⟨fun j w1 hC => by have hq := at_i hC.1 8 (.int .i64 i.amount) (by decide) rfl; exact Chn.upon_pure hC (fun F hF => by (go_simp <;> exact hF)), ?_⟩
  simp only [Act.put, List.setIfInBounds_toArray, List.set_cons_succ, List.set_cons_zero]
  refine ⟨fun w1 hC => by exact Chn.upon_call (Shift_c X i.shift i.amount hU w1) (fun e2 w2 hh => ⟨by rw [hh.1, hZ, hz], hC.same rfl hh.2⟩) (fun F hF => by (go_simp <;> exact hF)), ?_⟩
  simp only [Act.put, List.setIfInBounds_toArray, List.set_cons_succ, List.set_cons_zero]
  refine ⟨fun j w1 hC => by exact Chn.upon_pure hC (fun F hF => by (go_simp <;> exact hF)), ?_⟩
  simp only [Act.put, List.setIfInBounds_toArray, List.set_cons_succ, List.set_cons_zero]
  refine ⟨fun j w1 hC => by exact Chn.upon_pure hC (fun F hF => by (go_simp <;> exact hF)), ?_⟩
  simp only [Act.put, List.setIfInBounds_toArray, List.set_cons_succ, List.set_cons_zero]
  refine ⟨fun j w1 hC => by exact Chn.upon_pure hC (fun F hF => by (go_simp <;> exact hF)), ?_⟩
  simp only [Act.put, List.setIfInBounds_toArray, List.set_cons_succ, List.set_cons_zero]
  refine ⟨fun j w1 hC => by exact Chn.upon_pure hC (fun F hF => by (go_simp <;> exact hF)), ?_⟩
  simp only [Act.put, List.setIfInBounds_toArray, List.set_cons_succ, List.set_cons_zero]
  refine ⟨fun j w1 hC => by exact Chn.upon_pure hC (fun F hF => by (go_simp <;> exact hF)), ?_⟩
  simp only [Act.put, List.setIfInBounds_toArray, List.set_cons_succ, List.set_cons_zero]
  intro w2 hC
  go_wp2
  go_ret
  exact ⟨rfl, hC⟩
set_option maxRecDepth 4000 in
set_option maxHeartbeats 2000000 in
theorem stBitfield_c (g : Nat) (i : Ins) (c : Cor) (k : Gt) (e : Int) (w : World) (h : w.heap[g]? = some (.cells (Stp.cells ⟨i, c, k, e⟩) 58)) (X Z z : Int) (hX : xV c i.rn = X) (hZ : moveV X (i.sub == 0) i.imm i.imm2 = Z) (hz : moveE i.imm i.imm2 = z) : Calls Tryz.prog 131 #[.pointer (some ⟨g, 0, none⟩)] w fun e2 w' => e2 = .returned (.tuple #[]) ∧ w'.heap[g]? = some (.cells (Stp.cells ⟨i, setXV c i.rd Z, k, e⟩) 58) ∧ But g w w' := by
  go_enter Tryz.func131, Tryz.ntmps131
  go_upto_region 0 with fail
  refine Chn.wp_region_chain (Ph g i (fun _ => c) k e w) [6, 23] [(.pointer (some ⟨g, 0, none⟩)), (.pointer (some ⟨g, 0, none⟩)), (.pointer (some ⟨g, 0, none⟩)), (.pointer (some ⟨g, 0, none⟩)), (.pointer (some ⟨g, 3, none⟩)), (.int .i64 i.rn), (.int .u64 X), (.pointer (some ⟨g, 0, none⟩)), (.pointer (some ⟨g, 0, none⟩)), (.pointer (some ⟨g, 0, none⟩)), (.pointer (some ⟨g, 1, none⟩)), (.int .i64 i.sub), (.bool (i.sub == 0)), (.pointer (some ⟨g, 0, none⟩)), (.pointer (some ⟨g, 0, none⟩)), (.pointer (some ⟨g, 0, none⟩)), (.pointer (some ⟨g, 6, none⟩)), (.int .i64 i.imm), (.pointer (some ⟨g, 0, none⟩)), (.pointer (some ⟨g, 0, none⟩)), (.pointer (some ⟨g, 0, none⟩)), (.pointer (some ⟨g, 7, none⟩)), (.int .i64 i.imm2), (.tuple #[.int .u64 Z, .int .i64 z]), (.tuple #[.int .u64 Z, .int .i64 z]), (.int .u64 Z), (.int .i64 z), (.int .u64 Z), (.int .i64 z)] (by kernel_rfl) (by kernel_rfl) (by kernel_rfl) (by kernel_rfl) (ph_start h) ?_
  refine ⟨fun j w1 hC => by exact Chn.upon_pure hC (fun F hF => by (go_simp <;> exact hF)), ?_⟩
  simp only [Act.put, List.setIfInBounds_toArray, List.set_cons_succ, List.set_cons_zero]
  refine ⟨fun j w1 hC => by exact Chn.upon_pure hC (fun F hF => by (go_simp <;> exact hF)), ?_⟩
  simp only [Act.put, List.setIfInBounds_toArray, List.set_cons_succ, List.set_cons_zero]
  refine ⟨fun j w1 hC => by exact Chn.upon_pure hC (fun F hF => by (go_simp <;> exact hF)), ?_⟩
  simp only [Act.put, List.setIfInBounds_toArray, List.set_cons_succ, List.set_cons_zero]
  refine ⟨fun j w1 hC => by exact Chn.upon_pure hC (fun F hF => by (go_simp <;> exact hF)), ?_⟩
  simp only [Act.put, List.setIfInBounds_toArray, List.set_cons_succ, List.set_cons_zero]
  refine ⟨fun j w1 hC => by exact Chn.upon_pure hC (fun F hF => by (go_simp <;> exact hF)), ?_⟩
  simp only [Act.put, List.setIfInBounds_toArray, List.set_cons_succ, List.set_cons_zero]
  refine ⟨fun j w1 hC => by have hq := at_i hC.1 3 (.int .i64 i.rn) (by decide) rfl; exact Chn.upon_pure hC (fun F hF => by (go_simp <;> exact hF)), ?_⟩
  simp only [Act.put, List.setIfInBounds_toArray, List.set_cons_succ, List.set_cons_zero]
  refine ⟨fun w1 hC => by exact Chn.upon_call (sx_c g ⟨i, c, k, e⟩ i.rn w1 hC.1) (fun e2 w2 hh => ⟨by rw [hh.1]; show _ = Ending.returned (.int .u64 X); rw [← hX], hC.same rfl hh.2⟩) (fun F hF => by (go_simp <;> exact hF)), ?_⟩
  simp only [Act.put, List.setIfInBounds_toArray, List.set_cons_succ, List.set_cons_zero]
  refine ⟨fun j w1 hC => by exact Chn.upon_pure hC (fun F hF => by (go_simp <;> exact hF)), ?_⟩
  simp only [Act.put, List.setIfInBounds_toArray, List.set_cons_succ, List.set_cons_zero]
  refine ⟨fun j w1 hC => by exact Chn.upon_pure hC (fun F hF => by (go_simp <;> exact hF)), ?_⟩
  simp only [Act.put, List.setIfInBounds_toArray, List.set_cons_succ, List.set_cons_zero]
  refine ⟨fun j w1 hC => by exact Chn.upon_pure hC (fun F hF => by (go_simp <;> exact hF)), ?_⟩
  simp only [Act.put, List.setIfInBounds_toArray, List.set_cons_succ, List.set_cons_zero]
  refine ⟨fun j w1 hC => by exact Chn.upon_pure hC (fun F hF => by (go_simp <;> exact hF)), ?_⟩
  simp only [Act.put, List.setIfInBounds_toArray, List.set_cons_succ, List.set_cons_zero]
  refine ⟨fun j w1 hC => by have hq := at_i hC.1 1 (.int .i64 i.sub) (by decide) rfl; exact Chn.upon_pure hC (fun F hF => by (go_simp <;> exact hF)), ?_⟩
  simp only [Act.put, List.setIfInBounds_toArray, List.set_cons_succ, List.set_cons_zero]
  refine ⟨fun j w1 hC => by exact Chn.upon_pure hC (fun F hF => by (go_simp <;> exact hF)), ?_⟩
  simp only [Act.put, List.setIfInBounds_toArray, List.set_cons_succ, List.set_cons_zero]
  refine ⟨fun j w1 hC => by exact Chn.upon_pure hC (fun F hF => by (go_simp <;> exact hF)), ?_⟩
  simp only [Act.put, List.setIfInBounds_toArray, List.set_cons_succ, List.set_cons_zero]
  refine ⟨fun j w1 hC => by exact Chn.upon_pure hC (fun F hF => by (go_simp <;> exact hF)), ?_⟩
  simp only [Act.put, List.setIfInBounds_toArray, List.set_cons_succ, List.set_cons_zero]
  refine ⟨fun j w1 hC => by exact Chn.upon_pure hC (fun F hF => by (go_simp <;> exact hF)), ?_⟩
  simp only [Act.put, List.setIfInBounds_toArray, List.set_cons_succ, List.set_cons_zero]
  refine ⟨fun j w1 hC => by exact Chn.upon_pure hC (fun F hF => by (go_simp <;> exact hF)), ?_⟩
  simp only [Act.put, List.setIfInBounds_toArray, List.set_cons_succ, List.set_cons_zero]
  refine ⟨fun j w1 hC => by have hq := at_i hC.1 6 (.int .i64 i.imm) (by decide) rfl; exact Chn.upon_pure hC (fun F hF => by (go_simp <;> exact hF)), ?_⟩
  simp only [Act.put, List.setIfInBounds_toArray, List.set_cons_succ, List.set_cons_zero]
  refine ⟨fun j w1 hC => by exact Chn.upon_pure hC (fun F hF => by (go_simp <;> exact hF)), ?_⟩
  simp only [Act.put, List.setIfInBounds_toArray, List.set_cons_succ, List.set_cons_zero]
  refine ⟨fun j w1 hC => by exact Chn.upon_pure hC (fun F hF => by (go_simp <;> exact hF)), ?_⟩
  simp only [Act.put, List.setIfInBounds_toArray, List.set_cons_succ, List.set_cons_zero]
  refine ⟨fun j w1 hC => by exact Chn.upon_pure hC (fun F hF => by (go_simp <;> exact hF)), ?_⟩
  simp only [Act.put, List.setIfInBounds_toArray, List.set_cons_succ, List.set_cons_zero]
  refine ⟨fun j w1 hC => by exact Chn.upon_pure hC (fun F hF => by (go_simp <;> exact hF)), ?_⟩
  simp only [Act.put, List.setIfInBounds_toArray, List.set_cons_succ, List.set_cons_zero]
  refine ⟨fun j w1 hC => by have hq := at_i hC.1 7 (.int .i64 i.imm2) (by decide) rfl; exact Chn.upon_pure hC (fun F hF => by (go_simp <;> exact hF)), ?_⟩
  simp only [Act.put, List.setIfInBounds_toArray, List.set_cons_succ, List.set_cons_zero]
  refine ⟨fun w1 hC => by exact Chn.upon_call (Field_c X (i.sub == 0) i.imm i.imm2 w1) (fun e2 w2 hh => ⟨by rw [hh.1, hZ, hz], hC.same rfl (hh.2 ▸ Below.refl _ _)⟩) (fun F hF => by (go_simp <;> exact hF)), ?_⟩
  simp only [Act.put, List.setIfInBounds_toArray, List.set_cons_succ, List.set_cons_zero]
  refine ⟨fun j w1 hC => by exact Chn.upon_pure hC (fun F hF => by (go_simp <;> exact hF)), ?_⟩
  simp only [Act.put, List.setIfInBounds_toArray, List.set_cons_succ, List.set_cons_zero]
  refine ⟨fun j w1 hC => by exact Chn.upon_pure hC (fun F hF => by (go_simp <;> exact hF)), ?_⟩
  simp only [Act.put, List.setIfInBounds_toArray, List.set_cons_succ, List.set_cons_zero]
  refine ⟨fun j w1 hC => by exact Chn.upon_pure hC (fun F hF => by (go_simp <;> exact hF)), ?_⟩
  simp only [Act.put, List.setIfInBounds_toArray, List.set_cons_succ, List.set_cons_zero]
  refine ⟨fun j w1 hC => by exact Chn.upon_pure hC (fun F hF => by (go_simp <;> exact hF)), ?_⟩
  simp only [Act.put, List.setIfInBounds_toArray, List.set_cons_succ, List.set_cons_zero]
  refine ⟨fun j w1 hC => by exact Chn.upon_pure hC (fun F hF => by (go_simp <;> exact hF)), ?_⟩
  simp only [Act.put, List.setIfInBounds_toArray, List.set_cons_succ, List.set_cons_zero]
  intro w2 hC
  have c2 := at_i hC.1 2 (.int .i64 i.rd) (by decide) rfl
  go_wp2_with (go_at_call 196; refine (setX_c g ⟨i, c, k, e⟩ i.rd _ _ hC.1).mono ?_; rintro e2 w3 ⟨rfl, hs3, hB3⟩; dsimp only)
  first | go_end0 | ((try simp only [Exit.inBlock, Exit.then]); refine bodyPost_ret (results_none rfl _ _ _) rfl ?_)
  exact ⟨rfl, hs3, hC.2.trans hB3⟩
set_option maxRecDepth 4000 in
set_option maxHeartbeats 2000000 in
theorem stShiftReg_c (g : Nat) (i : Ins) (c : Cor) (k : Gt) (e : Int) (w : World) (h : w.heap[g]? = some (.cells (Stp.cells ⟨i, c, k, e⟩) 58)) (X Y Z z : Int) (hX : xV c i.rn = X) (hY : xV c i.rm = Y) (hU : Hid (U64 X)) (hV : Hid (U64 Y)) (hZ : shiftV X i.sub (Y % 64) = Z) (hz : shiftE i.sub (Y % 64) = z) : Calls Tryz.prog 132 #[.pointer (some ⟨g, 0, none⟩)] w fun e2 w' => e2 = .returned (.tuple #[]) ∧ w'.heap[g]? = some (.cells (Stp.cells ⟨i, setXV c i.rd Z, k, e⟩) 58) ∧ But g w w' := by
  go_enter Tryz.func132, Tryz.ntmps132
  go_upto_region 0 with fail
  refine Chn.wp_region_chain (Ph g i (fun _ => c) k e w) [6, 18, 21] [(.pointer (some ⟨g, 0, none⟩)), (.pointer (some ⟨g, 0, none⟩)), (.pointer (some ⟨g, 0, none⟩)), (.pointer (some ⟨g, 0, none⟩)), (.pointer (some ⟨g, 3, none⟩)), (.int .i64 i.rn), (.int .u64 X), (.pointer (some ⟨g, 0, none⟩)), (.pointer (some ⟨g, 0, none⟩)), (.pointer (some ⟨g, 0, none⟩)), (.pointer (some ⟨g, 1, none⟩)), (.int .i64 i.sub), (.pointer (some ⟨g, 0, none⟩)), (.pointer (some ⟨g, 0, none⟩)), (.pointer (some ⟨g, 0, none⟩)), (.pointer (some ⟨g, 0, none⟩)), (.pointer (some ⟨g, 4, none⟩)), (.int .i64 i.rm), (.int .u64 Y), (.int .u64 (Y % 64)), (.int .i64 (Y % 64)), (.tuple #[.int .u64 Z, .int .i64 z]), (.tuple #[.int .u64 Z, .int .i64 z]), (.int .u64 Z), (.int .i64 z), (.int .u64 Z), (.int .i64 z)] (by kernel_rfl) (by kernel_rfl) (by kernel_rfl) (by kernel_rfl) (ph_start h) ?_
  refine ⟨fun j w1 hC => by exact Chn.upon_pure hC (fun F hF => by (go_simp <;> exact hF)), ?_⟩
  simp only [Act.put, List.setIfInBounds_toArray, List.set_cons_succ, List.set_cons_zero]
  refine ⟨fun j w1 hC => by exact Chn.upon_pure hC (fun F hF => by (go_simp <;> exact hF)), ?_⟩
  simp only [Act.put, List.setIfInBounds_toArray, List.set_cons_succ, List.set_cons_zero]
  refine ⟨fun j w1 hC => by exact Chn.upon_pure hC (fun F hF => by (go_simp <;> exact hF)), ?_⟩
  simp only [Act.put, List.setIfInBounds_toArray, List.set_cons_succ, List.set_cons_zero]
  refine ⟨fun j w1 hC => by exact Chn.upon_pure hC (fun F hF => by (go_simp <;> exact hF)), ?_⟩
  simp only [Act.put, List.setIfInBounds_toArray, List.set_cons_succ, List.set_cons_zero]
  refine ⟨fun j w1 hC => by exact Chn.upon_pure hC (fun F hF => by (go_simp <;> exact hF)), ?_⟩
  simp only [Act.put, List.setIfInBounds_toArray, List.set_cons_succ, List.set_cons_zero]
  refine ⟨fun j w1 hC => by have hq := at_i hC.1 3 (.int .i64 i.rn) (by decide) rfl; exact Chn.upon_pure hC (fun F hF => by (go_simp <;> exact hF)), ?_⟩
  simp only [Act.put, List.setIfInBounds_toArray, List.set_cons_succ, List.set_cons_zero]
  refine ⟨fun w1 hC => by exact Chn.upon_call (sx_c g ⟨i, c, k, e⟩ i.rn w1 hC.1) (fun e2 w2 hh => ⟨by rw [hh.1]; show _ = Ending.returned (.int .u64 X); rw [← hX], hC.same rfl hh.2⟩) (fun F hF => by (go_simp <;> exact hF)), ?_⟩
  simp only [Act.put, List.setIfInBounds_toArray, List.set_cons_succ, List.set_cons_zero]
  refine ⟨fun j w1 hC => by exact Chn.upon_pure hC (fun F hF => by (go_simp <;> exact hF)), ?_⟩
  simp only [Act.put, List.setIfInBounds_toArray, List.set_cons_succ, List.set_cons_zero]
  refine ⟨fun j w1 hC => by exact Chn.upon_pure hC (fun F hF => by (go_simp <;> exact hF)), ?_⟩
  simp only [Act.put, List.setIfInBounds_toArray, List.set_cons_succ, List.set_cons_zero]
  refine ⟨fun j w1 hC => by exact Chn.upon_pure hC (fun F hF => by (go_simp <;> exact hF)), ?_⟩
  simp only [Act.put, List.setIfInBounds_toArray, List.set_cons_succ, List.set_cons_zero]
  refine ⟨fun j w1 hC => by exact Chn.upon_pure hC (fun F hF => by (go_simp <;> exact hF)), ?_⟩
  simp only [Act.put, List.setIfInBounds_toArray, List.set_cons_succ, List.set_cons_zero]
  refine ⟨fun j w1 hC => by have hq := at_i hC.1 1 (.int .i64 i.sub) (by decide) rfl; exact Chn.upon_pure hC (fun F hF => by (go_simp <;> exact hF)), ?_⟩
  simp only [Act.put, List.setIfInBounds_toArray, List.set_cons_succ, List.set_cons_zero]
  refine ⟨fun j w1 hC => by exact Chn.upon_pure hC (fun F hF => by (go_simp <;> exact hF)), ?_⟩
  simp only [Act.put, List.setIfInBounds_toArray, List.set_cons_succ, List.set_cons_zero]
  refine ⟨fun j w1 hC => by exact Chn.upon_pure hC (fun F hF => by (go_simp <;> exact hF)), ?_⟩
  simp only [Act.put, List.setIfInBounds_toArray, List.set_cons_succ, List.set_cons_zero]
  refine ⟨fun j w1 hC => by exact Chn.upon_pure hC (fun F hF => by (go_simp <;> exact hF)), ?_⟩
  simp only [Act.put, List.setIfInBounds_toArray, List.set_cons_succ, List.set_cons_zero]
  refine ⟨fun j w1 hC => by exact Chn.upon_pure hC (fun F hF => by (go_simp <;> exact hF)), ?_⟩
  simp only [Act.put, List.setIfInBounds_toArray, List.set_cons_succ, List.set_cons_zero]
  refine ⟨fun j w1 hC => by exact Chn.upon_pure hC (fun F hF => by (go_simp <;> exact hF)), ?_⟩
  simp only [Act.put, List.setIfInBounds_toArray, List.set_cons_succ, List.set_cons_zero]
  refine ⟨fun j w1 hC => by have hq := at_i hC.1 4 (.int .i64 i.rm) (by decide) rfl; exact Chn.upon_pure hC (fun F hF => by (go_simp <;> exact hF)), ?_⟩
  simp only [Act.put, List.setIfInBounds_toArray, List.set_cons_succ, List.set_cons_zero]
  refine ⟨fun w1 hC => by exact Chn.upon_call (sx_c g ⟨i, c, k, e⟩ i.rm w1 hC.1) (fun e2 w2 hh => ⟨by rw [hh.1]; show _ = Ending.returned (.int .u64 Y); rw [← hY], hC.same rfl hh.2⟩) (fun F hF => by (go_simp <;> exact hF)), ?_⟩
  simp only [Act.put, List.setIfInBounds_toArray, List.set_cons_succ, List.set_cons_zero]
  refine ⟨fun j w1 hC => by exact Chn.upon_int hC (Y.tmod 64) (rem64 hV.out) (fun F hF => by (go_simp <;> exact hF)), ?_⟩
  simp only [Act.put, List.setIfInBounds_toArray, List.set_cons_succ, List.set_cons_zero]
  refine ⟨fun j w1 hC => by exact Chn.upon_int hC (IntKind.i64.wrap (Y % 64)) (rem64c Y) (fun F hF => by (go_simp <;> exact hF)), ?_⟩
  simp only [Act.put, List.setIfInBounds_toArray, List.set_cons_succ, List.set_cons_zero]
  refine ⟨fun w1 hC => by exact Chn.upon_call (Shift_c X i.sub (Y % 64) hU w1) (fun e2 w2 hh => ⟨by rw [hh.1, hZ, hz], hC.same rfl hh.2⟩) (fun F hF => by (go_simp <;> exact hF)), ?_⟩
  simp only [Act.put, List.setIfInBounds_toArray, List.set_cons_succ, List.set_cons_zero]
  refine ⟨fun j w1 hC => by exact Chn.upon_pure hC (fun F hF => by (go_simp <;> exact hF)), ?_⟩
  simp only [Act.put, List.setIfInBounds_toArray, List.set_cons_succ, List.set_cons_zero]
  refine ⟨fun j w1 hC => by exact Chn.upon_pure hC (fun F hF => by (go_simp <;> exact hF)), ?_⟩
  simp only [Act.put, List.setIfInBounds_toArray, List.set_cons_succ, List.set_cons_zero]
  refine ⟨fun j w1 hC => by exact Chn.upon_pure hC (fun F hF => by (go_simp <;> exact hF)), ?_⟩
  simp only [Act.put, List.setIfInBounds_toArray, List.set_cons_succ, List.set_cons_zero]
  refine ⟨fun j w1 hC => by exact Chn.upon_pure hC (fun F hF => by (go_simp <;> exact hF)), ?_⟩
  simp only [Act.put, List.setIfInBounds_toArray, List.set_cons_succ, List.set_cons_zero]
  refine ⟨fun j w1 hC => by exact Chn.upon_pure hC (fun F hF => by (go_simp <;> exact hF)), ?_⟩
  simp only [Act.put, List.setIfInBounds_toArray, List.set_cons_succ, List.set_cons_zero]
  intro w2 hC
  have c2 := at_i hC.1 2 (.int .i64 i.rd) (by decide) rfl
  go_wp2_with (go_at_call 196; refine (setX_c g ⟨i, c, k, e⟩ i.rd _ _ hC.1).mono ?_; rintro e2 w3 ⟨rfl, hs3, hB3⟩; dsimp only)
  first | go_end0 | ((try simp only [Exit.inBlock, Exit.then]); refine bodyPost_ret (results_none rfl _ _ _) rfl ?_)
  exact ⟨rfl, hs3, hC.2.trans hB3⟩
set_option maxRecDepth 4000 in
set_option maxHeartbeats 2000000 in
theorem stMultiply_A (g : Nat) (i : Ins) (c : Cor) (k : Gt) (e : Int) (w : World) (h : w.heap[g]? = some (.cells (Stp.cells ⟨i, c, k, e⟩) 58)) (hm : i.minus = false) (X Y A Z V : Int) (hX : xV c i.rn = X) (hY : xV c i.rm = Y) (hA : xV c i.ra = A) (hU : Hid (U64 X)) (hV2 : Hid (U64 Y)) (hA1 : Hid (U64 A)) (hZ1 : Hid (U64 Z)) (hZ : reckonV 6 X Y = Z) (hV : reckonV 1 A Z = V) : Calls Tryz.prog 133 #[.pointer (some ⟨g, 0, none⟩)] w fun e2 w' => e2 = .returned (.tuple #[]) ∧ w'.heap[g]? = some (.cells (Stp.cells ⟨i, setXV c i.rd V, k, e⟩) 58) ∧ But g w w' := by
  have c13 := at_i h 13 (.bool i.minus) (by decide) rfl
  rw [hm] at c13
  go_enter Tryz.func133, Tryz.ntmps133
  go_upto_region 3 with fail
  refine Chn.wp_region_chain (Ph g i (fun _ => c) k e w) [6, 13, 14] [(.pointer (some ⟨g, 0, none⟩)), (.pointer (some ⟨g, 0, none⟩)), (.pointer (some ⟨g, 0, none⟩)), (.pointer (some ⟨g, 0, none⟩)), (.pointer (some ⟨g, 3, none⟩)), (.int .i64 i.rn), (.int .u64 X), (.pointer (some ⟨g, 0, none⟩)), (.pointer (some ⟨g, 0, none⟩)), (.pointer (some ⟨g, 0, none⟩)), (.pointer (some ⟨g, 0, none⟩)), (.pointer (some ⟨g, 4, none⟩)), (.int .i64 i.rm), (.int .u64 Y), (.int .u64 Z), (.int .u64 Z)] (by kernel_rfl) (by kernel_rfl) (by kernel_rfl) (by kernel_rfl) (ph_start h) ?_
  refine ⟨fun j w1 hC => by exact Chn.upon_pure hC (fun F hF => by (go_simp <;> exact hF)), ?_⟩
  simp only [Act.put, List.setIfInBounds_toArray, List.set_cons_succ, List.set_cons_zero]
  refine ⟨fun j w1 hC => by exact Chn.upon_pure hC (fun F hF => by (go_simp <;> exact hF)), ?_⟩
  simp only [Act.put, List.setIfInBounds_toArray, List.set_cons_succ, List.set_cons_zero]
  refine ⟨fun j w1 hC => by exact Chn.upon_pure hC (fun F hF => by (go_simp <;> exact hF)), ?_⟩
  simp only [Act.put, List.setIfInBounds_toArray, List.set_cons_succ, List.set_cons_zero]
  refine ⟨fun j w1 hC => by exact Chn.upon_pure hC (fun F hF => by (go_simp <;> exact hF)), ?_⟩
  simp only [Act.put, List.setIfInBounds_toArray, List.set_cons_succ, List.set_cons_zero]
  refine ⟨fun j w1 hC => by exact Chn.upon_pure hC (fun F hF => by (go_simp <;> exact hF)), ?_⟩
  simp only [Act.put, List.setIfInBounds_toArray, List.set_cons_succ, List.set_cons_zero]
  refine ⟨fun j w1 hC => by have hq := at_i hC.1 3 (.int .i64 i.rn) (by decide) rfl; exact Chn.upon_pure hC (fun F hF => by (go_simp <;> exact hF)), ?_⟩
  simp only [Act.put, List.setIfInBounds_toArray, List.set_cons_succ, List.set_cons_zero]
  refine ⟨fun w1 hC => by exact Chn.upon_call (sx_c g ⟨i, c, k, e⟩ i.rn w1 hC.1) (fun e2 w2 hh => ⟨by rw [hh.1]; show _ = Ending.returned (.int .u64 X); rw [← hX], hC.same rfl hh.2⟩) (fun F hF => by (go_simp <;> exact hF)), ?_⟩
  simp only [Act.put, List.setIfInBounds_toArray, List.set_cons_succ, List.set_cons_zero]
  refine ⟨fun j w1 hC => by exact Chn.upon_pure hC (fun F hF => by (go_simp <;> exact hF)), ?_⟩
  simp only [Act.put, List.setIfInBounds_toArray, List.set_cons_succ, List.set_cons_zero]
  refine ⟨fun j w1 hC => by exact Chn.upon_pure hC (fun F hF => by (go_simp <;> exact hF)), ?_⟩
  simp only [Act.put, List.setIfInBounds_toArray, List.set_cons_succ, List.set_cons_zero]
  refine ⟨fun j w1 hC => by exact Chn.upon_pure hC (fun F hF => by (go_simp <;> exact hF)), ?_⟩
  simp only [Act.put, List.setIfInBounds_toArray, List.set_cons_succ, List.set_cons_zero]
  refine ⟨fun j w1 hC => by exact Chn.upon_pure hC (fun F hF => by (go_simp <;> exact hF)), ?_⟩
  simp only [Act.put, List.setIfInBounds_toArray, List.set_cons_succ, List.set_cons_zero]
  refine ⟨fun j w1 hC => by exact Chn.upon_pure hC (fun F hF => by (go_simp <;> exact hF)), ?_⟩
  simp only [Act.put, List.setIfInBounds_toArray, List.set_cons_succ, List.set_cons_zero]
  refine ⟨fun j w1 hC => by have hq := at_i hC.1 4 (.int .i64 i.rm) (by decide) rfl; exact Chn.upon_pure hC (fun F hF => by (go_simp <;> exact hF)), ?_⟩
  simp only [Act.put, List.setIfInBounds_toArray, List.set_cons_succ, List.set_cons_zero]
  refine ⟨fun w1 hC => by exact Chn.upon_call (sx_c g ⟨i, c, k, e⟩ i.rm w1 hC.1) (fun e2 w2 hh => ⟨by rw [hh.1]; show _ = Ending.returned (.int .u64 Y); rw [← hY], hC.same rfl hh.2⟩) (fun F hF => by (go_simp <;> exact hF)), ?_⟩
  simp only [Act.put, List.setIfInBounds_toArray, List.set_cons_succ, List.set_cons_zero]
  refine ⟨fun w1 hC => by exact Chn.upon_call (reckon_c 6 X Y hU hV2 w1) (fun e2 w2 hh => ⟨by rw [hh.1, hZ], hC.same rfl hh.2⟩) (fun F hF => by (go_simp <;> exact hF)), ?_⟩
  simp only [Act.put, List.setIfInBounds_toArray, List.set_cons_succ, List.set_cons_zero]
  refine ⟨fun j w1 hC => by exact Chn.upon_pure hC (fun F hF => by (go_simp <;> exact hF)), ?_⟩
  simp only [Act.put, List.setIfInBounds_toArray, List.set_cons_succ, List.set_cons_zero]
  intro w2 hC
  go_upto_region 4 with fail
  refine Chn.wp_region_chain (Ph g i (pick3 c (setXV c i.rd V)) k e w2) [13, 15, 16] [(.pointer (some ⟨g, 0, none⟩)), (.pointer (some ⟨g, 0, none⟩)), (.pointer (some ⟨g, 0, none⟩)), (.pointer (some ⟨g, 0, none⟩)), (.pointer (some ⟨g, 2, none⟩)), (.int .i64 i.rd), (.int .i64 1), (.pointer (some ⟨g, 0, none⟩)), (.pointer (some ⟨g, 0, none⟩)), (.pointer (some ⟨g, 0, none⟩)), (.pointer (some ⟨g, 0, none⟩)), (.pointer (some ⟨g, 5, none⟩)), (.int .i64 i.ra), (.int .u64 A), (.int .u64 Z), (.int .u64 V), (.tuple #[])] (by kernel_rfl) (by kernel_rfl) (by kernel_rfl) (by kernel_rfl) (ph_start hC.1) ?_
  refine ⟨fun j w1 hC => by exact Chn.upon_pure hC (fun F hF => by (go_simp <;> exact hF)), ?_⟩
  simp only [Act.put, List.setIfInBounds_toArray, List.set_cons_succ, List.set_cons_zero]
  refine ⟨fun j w1 hC => by exact Chn.upon_pure hC (fun F hF => by (go_simp <;> exact hF)), ?_⟩
  simp only [Act.put, List.setIfInBounds_toArray, List.set_cons_succ, List.set_cons_zero]
  refine ⟨fun j w1 hC => by exact Chn.upon_pure hC (fun F hF => by (go_simp <;> exact hF)), ?_⟩
  simp only [Act.put, List.setIfInBounds_toArray, List.set_cons_succ, List.set_cons_zero]
  refine ⟨fun j w1 hC => by exact Chn.upon_pure hC (fun F hF => by (go_simp <;> exact hF)), ?_⟩
  simp only [Act.put, List.setIfInBounds_toArray, List.set_cons_succ, List.set_cons_zero]
  refine ⟨fun j w1 hC => by exact Chn.upon_pure hC (fun F hF => by (go_simp <;> exact hF)), ?_⟩
  simp only [Act.put, List.setIfInBounds_toArray, List.set_cons_succ, List.set_cons_zero]
  refine ⟨fun j w1 hC => by have hq := at_i hC.1 2 (.int .i64 i.rd) (by decide) rfl; exact Chn.upon_pure hC (fun F hF => by (go_simp <;> exact hF)), ?_⟩
  simp only [Act.put, List.setIfInBounds_toArray, List.set_cons_succ, List.set_cons_zero]
  refine ⟨fun j w1 hC => by exact Chn.upon_pure hC (fun F hF => by (go_simp <;> exact hF)), ?_⟩
  simp only [Act.put, List.setIfInBounds_toArray, List.set_cons_succ, List.set_cons_zero]
  refine ⟨fun j w1 hC => by exact Chn.upon_pure hC (fun F hF => by (go_simp <;> exact hF)), ?_⟩
  simp only [Act.put, List.setIfInBounds_toArray, List.set_cons_succ, List.set_cons_zero]
  refine ⟨fun j w1 hC => by exact Chn.upon_pure hC (fun F hF => by (go_simp <;> exact hF)), ?_⟩
  simp only [Act.put, List.setIfInBounds_toArray, List.set_cons_succ, List.set_cons_zero]
  refine ⟨fun j w1 hC => by exact Chn.upon_pure hC (fun F hF => by (go_simp <;> exact hF)), ?_⟩
  simp only [Act.put, List.setIfInBounds_toArray, List.set_cons_succ, List.set_cons_zero]
  refine ⟨fun j w1 hC => by exact Chn.upon_pure hC (fun F hF => by (go_simp <;> exact hF)), ?_⟩
  simp only [Act.put, List.setIfInBounds_toArray, List.set_cons_succ, List.set_cons_zero]
  refine ⟨fun j w1 hC => by exact Chn.upon_pure hC (fun F hF => by (go_simp <;> exact hF)), ?_⟩
  simp only [Act.put, List.setIfInBounds_toArray, List.set_cons_succ, List.set_cons_zero]
  refine ⟨fun j w1 hC => by have hq := at_i hC.1 5 (.int .i64 i.ra) (by decide) rfl; exact Chn.upon_pure hC (fun F hF => by (go_simp <;> exact hF)), ?_⟩
  simp only [Act.put, List.setIfInBounds_toArray, List.set_cons_succ, List.set_cons_zero]
  refine ⟨fun w1 hC => by exact Chn.upon_call (sx_c g ⟨i, c, k, e⟩ i.ra w1 hC.1) (fun e2 w2 hh => ⟨by rw [hh.1]; show _ = Ending.returned (.int .u64 A); rw [← hA], hC.same rfl hh.2⟩) (fun F hF => by (go_simp <;> exact hF)), ?_⟩
  simp only [Act.put, List.setIfInBounds_toArray, List.set_cons_succ, List.set_cons_zero]
  refine ⟨fun j w1 hC => by exact Chn.upon_pure hC (fun F hF => by (go_simp <;> exact hF)), ?_⟩
  simp only [Act.put, List.setIfInBounds_toArray, List.set_cons_succ, List.set_cons_zero]
  refine ⟨fun w1 hC => by exact Chn.upon_call (reckon_c 1 A Z hA1 hZ1 w1) (fun e2 w2 hh => ⟨by rw [hh.1, hV], hC.same rfl hh.2⟩) (fun F hF => by (go_simp <;> exact hF)), ?_⟩
  simp only [Act.put, List.setIfInBounds_toArray, List.set_cons_succ, List.set_cons_zero]
  refine ⟨fun w1 hC => by exact Chn.upon_call (setX_c g ⟨i, c, k, e⟩ i.rd V w1 hC.1) (fun e2 w2 hh => ⟨hh.1, hC.next hh.2.1 hh.2.2⟩) (fun F hF => by (go_simp <;> exact hF)), ?_⟩
  simp only [Act.put, List.setIfInBounds_toArray, List.set_cons_succ, List.set_cons_zero]
  intro w3 hD
  go_wp2
  first | go_end0 | ((try simp only [Exit.inBlock, Exit.then]); refine bodyPost_ret (results_none rfl _ _ _) rfl ?_)
  exact ⟨rfl, hD.1, hC.2.trans hD.2⟩
set_option maxRecDepth 4000 in
set_option maxHeartbeats 2000000 in
theorem stMultiply_S (g : Nat) (i : Ins) (c : Cor) (k : Gt) (e : Int) (w : World) (h : w.heap[g]? = some (.cells (Stp.cells ⟨i, c, k, e⟩) 58)) (hm : i.minus = true) (X Y A Z V : Int) (hX : xV c i.rn = X) (hY : xV c i.rm = Y) (hA : xV c i.ra = A) (hU : Hid (U64 X)) (hV2 : Hid (U64 Y)) (hA1 : Hid (U64 A)) (hZ1 : Hid (U64 Z)) (hZ : reckonV 6 X Y = Z) (hV : reckonV 2 A Z = V) : Calls Tryz.prog 133 #[.pointer (some ⟨g, 0, none⟩)] w fun e2 w' => e2 = .returned (.tuple #[]) ∧ w'.heap[g]? = some (.cells (Stp.cells ⟨i, setXV c i.rd V, k, e⟩) 58) ∧ But g w w' := by
  have c13 := at_i h 13 (.bool i.minus) (by decide) rfl
  rw [hm] at c13
  go_enter Tryz.func133, Tryz.ntmps133
  go_upto_region 3 with fail
  refine Chn.wp_region_chain (Ph g i (fun _ => c) k e w) [6, 13, 14] [(.pointer (some ⟨g, 0, none⟩)), (.pointer (some ⟨g, 0, none⟩)), (.pointer (some ⟨g, 0, none⟩)), (.pointer (some ⟨g, 0, none⟩)), (.pointer (some ⟨g, 3, none⟩)), (.int .i64 i.rn), (.int .u64 X), (.pointer (some ⟨g, 0, none⟩)), (.pointer (some ⟨g, 0, none⟩)), (.pointer (some ⟨g, 0, none⟩)), (.pointer (some ⟨g, 0, none⟩)), (.pointer (some ⟨g, 4, none⟩)), (.int .i64 i.rm), (.int .u64 Y), (.int .u64 Z), (.int .u64 Z)] (by kernel_rfl) (by kernel_rfl) (by kernel_rfl) (by kernel_rfl) (ph_start h) ?_
  refine ⟨fun j w1 hC => by exact Chn.upon_pure hC (fun F hF => by (go_simp <;> exact hF)), ?_⟩
  simp only [Act.put, List.setIfInBounds_toArray, List.set_cons_succ, List.set_cons_zero]
  refine ⟨fun j w1 hC => by exact Chn.upon_pure hC (fun F hF => by (go_simp <;> exact hF)), ?_⟩
  simp only [Act.put, List.setIfInBounds_toArray, List.set_cons_succ, List.set_cons_zero]
  refine ⟨fun j w1 hC => by exact Chn.upon_pure hC (fun F hF => by (go_simp <;> exact hF)), ?_⟩
  simp only [Act.put, List.setIfInBounds_toArray, List.set_cons_succ, List.set_cons_zero]
  refine ⟨fun j w1 hC => by exact Chn.upon_pure hC (fun F hF => by (go_simp <;> exact hF)), ?_⟩
  simp only [Act.put, List.setIfInBounds_toArray, List.set_cons_succ, List.set_cons_zero]
  refine ⟨fun j w1 hC => by exact Chn.upon_pure hC (fun F hF => by (go_simp <;> exact hF)), ?_⟩
  simp only [Act.put, List.setIfInBounds_toArray, List.set_cons_succ, List.set_cons_zero]
  refine ⟨fun j w1 hC => by have hq := at_i hC.1 3 (.int .i64 i.rn) (by decide) rfl; exact Chn.upon_pure hC (fun F hF => by (go_simp <;> exact hF)), ?_⟩
  simp only [Act.put, List.setIfInBounds_toArray, List.set_cons_succ, List.set_cons_zero]
  refine ⟨fun w1 hC => by exact Chn.upon_call (sx_c g ⟨i, c, k, e⟩ i.rn w1 hC.1) (fun e2 w2 hh => ⟨by rw [hh.1]; show _ = Ending.returned (.int .u64 X); rw [← hX], hC.same rfl hh.2⟩) (fun F hF => by (go_simp <;> exact hF)), ?_⟩
  simp only [Act.put, List.setIfInBounds_toArray, List.set_cons_succ, List.set_cons_zero]
  refine ⟨fun j w1 hC => by exact Chn.upon_pure hC (fun F hF => by (go_simp <;> exact hF)), ?_⟩
  simp only [Act.put, List.setIfInBounds_toArray, List.set_cons_succ, List.set_cons_zero]
  refine ⟨fun j w1 hC => by exact Chn.upon_pure hC (fun F hF => by (go_simp <;> exact hF)), ?_⟩
  simp only [Act.put, List.setIfInBounds_toArray, List.set_cons_succ, List.set_cons_zero]
  refine ⟨fun j w1 hC => by exact Chn.upon_pure hC (fun F hF => by (go_simp <;> exact hF)), ?_⟩
  simp only [Act.put, List.setIfInBounds_toArray, List.set_cons_succ, List.set_cons_zero]
  refine ⟨fun j w1 hC => by exact Chn.upon_pure hC (fun F hF => by (go_simp <;> exact hF)), ?_⟩
  simp only [Act.put, List.setIfInBounds_toArray, List.set_cons_succ, List.set_cons_zero]
  refine ⟨fun j w1 hC => by exact Chn.upon_pure hC (fun F hF => by (go_simp <;> exact hF)), ?_⟩
  simp only [Act.put, List.setIfInBounds_toArray, List.set_cons_succ, List.set_cons_zero]
  refine ⟨fun j w1 hC => by have hq := at_i hC.1 4 (.int .i64 i.rm) (by decide) rfl; exact Chn.upon_pure hC (fun F hF => by (go_simp <;> exact hF)), ?_⟩
  simp only [Act.put, List.setIfInBounds_toArray, List.set_cons_succ, List.set_cons_zero]
  refine ⟨fun w1 hC => by exact Chn.upon_call (sx_c g ⟨i, c, k, e⟩ i.rm w1 hC.1) (fun e2 w2 hh => ⟨by rw [hh.1]; show _ = Ending.returned (.int .u64 Y); rw [← hY], hC.same rfl hh.2⟩) (fun F hF => by (go_simp <;> exact hF)), ?_⟩
  simp only [Act.put, List.setIfInBounds_toArray, List.set_cons_succ, List.set_cons_zero]
  refine ⟨fun w1 hC => by exact Chn.upon_call (reckon_c 6 X Y hU hV2 w1) (fun e2 w2 hh => ⟨by rw [hh.1, hZ], hC.same rfl hh.2⟩) (fun F hF => by (go_simp <;> exact hF)), ?_⟩
  simp only [Act.put, List.setIfInBounds_toArray, List.set_cons_succ, List.set_cons_zero]
  refine ⟨fun j w1 hC => by exact Chn.upon_pure hC (fun F hF => by (go_simp <;> exact hF)), ?_⟩
  simp only [Act.put, List.setIfInBounds_toArray, List.set_cons_succ, List.set_cons_zero]
  intro w2 hC
  go_upto_region 4 with fail
  refine Chn.wp_region_chain (Ph g i (pick3 c (setXV c i.rd V)) k e w2) [13, 15, 16] [(.pointer (some ⟨g, 0, none⟩)), (.pointer (some ⟨g, 0, none⟩)), (.pointer (some ⟨g, 0, none⟩)), (.pointer (some ⟨g, 0, none⟩)), (.pointer (some ⟨g, 2, none⟩)), (.int .i64 i.rd), (.int .i64 2), (.pointer (some ⟨g, 0, none⟩)), (.pointer (some ⟨g, 0, none⟩)), (.pointer (some ⟨g, 0, none⟩)), (.pointer (some ⟨g, 0, none⟩)), (.pointer (some ⟨g, 5, none⟩)), (.int .i64 i.ra), (.int .u64 A), (.int .u64 Z), (.int .u64 V), (.tuple #[])] (by kernel_rfl) (by kernel_rfl) (by kernel_rfl) (by kernel_rfl) (ph_start hC.1) ?_
  refine ⟨fun j w1 hC => by exact Chn.upon_pure hC (fun F hF => by (go_simp <;> exact hF)), ?_⟩
  simp only [Act.put, List.setIfInBounds_toArray, List.set_cons_succ, List.set_cons_zero]
  refine ⟨fun j w1 hC => by exact Chn.upon_pure hC (fun F hF => by (go_simp <;> exact hF)), ?_⟩
  simp only [Act.put, List.setIfInBounds_toArray, List.set_cons_succ, List.set_cons_zero]
  refine ⟨fun j w1 hC => by exact Chn.upon_pure hC (fun F hF => by (go_simp <;> exact hF)), ?_⟩
  simp only [Act.put, List.setIfInBounds_toArray, List.set_cons_succ, List.set_cons_zero]
  refine ⟨fun j w1 hC => by exact Chn.upon_pure hC (fun F hF => by (go_simp <;> exact hF)), ?_⟩
  simp only [Act.put, List.setIfInBounds_toArray, List.set_cons_succ, List.set_cons_zero]
  refine ⟨fun j w1 hC => by exact Chn.upon_pure hC (fun F hF => by (go_simp <;> exact hF)), ?_⟩
  simp only [Act.put, List.setIfInBounds_toArray, List.set_cons_succ, List.set_cons_zero]
  refine ⟨fun j w1 hC => by have hq := at_i hC.1 2 (.int .i64 i.rd) (by decide) rfl; exact Chn.upon_pure hC (fun F hF => by (go_simp <;> exact hF)), ?_⟩
  simp only [Act.put, List.setIfInBounds_toArray, List.set_cons_succ, List.set_cons_zero]
  refine ⟨fun j w1 hC => by exact Chn.upon_pure hC (fun F hF => by (go_simp <;> exact hF)), ?_⟩
  simp only [Act.put, List.setIfInBounds_toArray, List.set_cons_succ, List.set_cons_zero]
  refine ⟨fun j w1 hC => by exact Chn.upon_pure hC (fun F hF => by (go_simp <;> exact hF)), ?_⟩
  simp only [Act.put, List.setIfInBounds_toArray, List.set_cons_succ, List.set_cons_zero]
  refine ⟨fun j w1 hC => by exact Chn.upon_pure hC (fun F hF => by (go_simp <;> exact hF)), ?_⟩
  simp only [Act.put, List.setIfInBounds_toArray, List.set_cons_succ, List.set_cons_zero]
  refine ⟨fun j w1 hC => by exact Chn.upon_pure hC (fun F hF => by (go_simp <;> exact hF)), ?_⟩
  simp only [Act.put, List.setIfInBounds_toArray, List.set_cons_succ, List.set_cons_zero]
  refine ⟨fun j w1 hC => by exact Chn.upon_pure hC (fun F hF => by (go_simp <;> exact hF)), ?_⟩
  simp only [Act.put, List.setIfInBounds_toArray, List.set_cons_succ, List.set_cons_zero]
  refine ⟨fun j w1 hC => by exact Chn.upon_pure hC (fun F hF => by (go_simp <;> exact hF)), ?_⟩
  simp only [Act.put, List.setIfInBounds_toArray, List.set_cons_succ, List.set_cons_zero]
  refine ⟨fun j w1 hC => by have hq := at_i hC.1 5 (.int .i64 i.ra) (by decide) rfl; exact Chn.upon_pure hC (fun F hF => by (go_simp <;> exact hF)), ?_⟩
  simp only [Act.put, List.setIfInBounds_toArray, List.set_cons_succ, List.set_cons_zero]
  refine ⟨fun w1 hC => by exact Chn.upon_call (sx_c g ⟨i, c, k, e⟩ i.ra w1 hC.1) (fun e2 w2 hh => ⟨by rw [hh.1]; show _ = Ending.returned (.int .u64 A); rw [← hA], hC.same rfl hh.2⟩) (fun F hF => by (go_simp <;> exact hF)), ?_⟩
  simp only [Act.put, List.setIfInBounds_toArray, List.set_cons_succ, List.set_cons_zero]
  refine ⟨fun j w1 hC => by exact Chn.upon_pure hC (fun F hF => by (go_simp <;> exact hF)), ?_⟩
  simp only [Act.put, List.setIfInBounds_toArray, List.set_cons_succ, List.set_cons_zero]
  refine ⟨fun w1 hC => by exact Chn.upon_call (reckon_c 2 A Z hA1 hZ1 w1) (fun e2 w2 hh => ⟨by rw [hh.1, hV], hC.same rfl hh.2⟩) (fun F hF => by (go_simp <;> exact hF)), ?_⟩
  simp only [Act.put, List.setIfInBounds_toArray, List.set_cons_succ, List.set_cons_zero]
  refine ⟨fun w1 hC => by exact Chn.upon_call (setX_c g ⟨i, c, k, e⟩ i.rd V w1 hC.1) (fun e2 w2 hh => ⟨hh.1, hC.next hh.2.1 hh.2.2⟩) (fun F hF => by (go_simp <;> exact hF)), ?_⟩
  simp only [Act.put, List.setIfInBounds_toArray, List.set_cons_succ, List.set_cons_zero]
  intro w3 hD
  go_wp2
  first | go_end0 | ((try simp only [Exit.inBlock, Exit.then]); refine bodyPost_ret (results_none rfl _ _ _) rfl ?_)
  exact ⟨rfl, hD.1, hC.2.trans hD.2⟩
end Go.Proofs.YtbjcdpmhmebjnaaGreat
/- Flags and conditions: what package regs, and the document's own answer, tell of them: contracts, for every state. -/
namespace Go.Proofs.YtbjcdpmhmebjnaaGreat
open Go.RowKit

def condB (cond : Int) : Bool := decide (0 ≤ cond) && decide (cond ≤ 15)
def condE (cond : Int) : Int := bif condB cond then 0 else 1
def holdsV (c : Cor) (cond : Int) : Bool := bif cond == 0 then c.z else bif cond == 1 then (!c.z) else bif cond == 2 then c.c else bif cond == 3 then (!c.c) else bif cond == 4 then c.n else bif cond == 5 then (!c.n) else bif cond == 6 then c.v else bif cond == 7 then (!c.v) else bif cond == 8 then (c.c && !c.z) else bif cond == 9 then (!(c.c && !c.z)) else bif cond == 10 then (c.n == c.v) else bif cond == 11 then (!(c.n == c.v)) else bif cond == 12 then (!c.z && (c.n == c.v)) else bif cond == 13 then (!(!c.z && (c.n == c.v))) else bif cond == 14 then true else bif cond == 15 then true else false
set_option maxHeartbeats 1000000 in
theorem Nzcv_c (c : Cor) (w : World) : Calls Tryz.prog 192 #[c.val] w fun e w' => e = .returned (vU (nzcvV c)) ∧ Below w.heap.size w w' := by
  go_enter Tryz.func192, Tryz.ntmps192
  go_upto_region 1 with fail
  go_quiet ((go_at_call 225; exact Calls.quiet_of_same (bitIf_c _ _ _)))
  go_wp2
  go_ret
  refine ⟨r_ret_int ?_, by repeat (first | exact Below.refl _ _ | apply r_below_more | apply below_drew | apply r_below_drewN)⟩
  unfold nzcvV
  cases c.n <;> cases c.z <;> cases c.c <;> cases c.v <;> rfl
end Go.Proofs.YtbjcdpmhmebjnaaGreat
/- Conditions: which hold: contracts, for every state. -/
namespace Go.Proofs.YtbjcdpmhmebjnaaGreat
open Go.RowKit

set_option maxHeartbeats 1000000 in
theorem Holds_0 (c : Cor) (w : World) : Calls Tryz.prog 239 #[c.val, r_vI 0] w fun e w' => e = .returned (.tuple #[.bool c.z, r_vI 0]) ∧ Below w.heap.size w w' := by
  go_enter Tryz.func239, Tryz.ntmps239
  go_wp2
  all_goals (go_ret2; refine ⟨ret_bi ?_ rfl, by repeat (first | exact Below.refl _ _ | apply r_below_more | apply below_drew | apply r_below_drewN)⟩; simp_all)
set_option maxHeartbeats 1000000 in
theorem Holds_1 (c : Cor) (w : World) : Calls Tryz.prog 239 #[c.val, r_vI 1] w fun e w' => e = .returned (.tuple #[.bool (!c.z), r_vI 0]) ∧ Below w.heap.size w w' := by
  go_enter Tryz.func239, Tryz.ntmps239
  go_wp2
  all_goals (go_ret2; refine ⟨ret_bi ?_ rfl, by repeat (first | exact Below.refl _ _ | apply r_below_more | apply below_drew | apply r_below_drewN)⟩; simp_all)
set_option maxHeartbeats 1000000 in
theorem Holds_2 (c : Cor) (w : World) : Calls Tryz.prog 239 #[c.val, r_vI 2] w fun e w' => e = .returned (.tuple #[.bool c.c, r_vI 0]) ∧ Below w.heap.size w w' := by
  go_enter Tryz.func239, Tryz.ntmps239
  go_wp2
  all_goals (go_ret2; refine ⟨ret_bi ?_ rfl, by repeat (first | exact Below.refl _ _ | apply r_below_more | apply below_drew | apply r_below_drewN)⟩; simp_all)
set_option maxHeartbeats 1000000 in
theorem Holds_3 (c : Cor) (w : World) : Calls Tryz.prog 239 #[c.val, r_vI 3] w fun e w' => e = .returned (.tuple #[.bool (!c.c), r_vI 0]) ∧ Below w.heap.size w w' := by
  go_enter Tryz.func239, Tryz.ntmps239
  go_wp2
  all_goals (go_ret2; refine ⟨ret_bi ?_ rfl, by repeat (first | exact Below.refl _ _ | apply r_below_more | apply below_drew | apply r_below_drewN)⟩; simp_all)
set_option maxHeartbeats 1000000 in
theorem Holds_4 (c : Cor) (w : World) : Calls Tryz.prog 239 #[c.val, r_vI 4] w fun e w' => e = .returned (.tuple #[.bool c.n, r_vI 0]) ∧ Below w.heap.size w w' := by
  go_enter Tryz.func239, Tryz.ntmps239
  go_wp2
  all_goals (go_ret2; refine ⟨ret_bi ?_ rfl, by repeat (first | exact Below.refl _ _ | apply r_below_more | apply below_drew | apply r_below_drewN)⟩; simp_all)
set_option maxHeartbeats 1000000 in
theorem Holds_5 (c : Cor) (w : World) : Calls Tryz.prog 239 #[c.val, r_vI 5] w fun e w' => e = .returned (.tuple #[.bool (!c.n), r_vI 0]) ∧ Below w.heap.size w w' := by
  go_enter Tryz.func239, Tryz.ntmps239
  go_wp2
  all_goals (go_ret2; refine ⟨ret_bi ?_ rfl, by repeat (first | exact Below.refl _ _ | apply r_below_more | apply below_drew | apply r_below_drewN)⟩; simp_all)
set_option maxHeartbeats 1000000 in
theorem Holds_6 (c : Cor) (w : World) : Calls Tryz.prog 239 #[c.val, r_vI 6] w fun e w' => e = .returned (.tuple #[.bool c.v, r_vI 0]) ∧ Below w.heap.size w w' := by
  go_enter Tryz.func239, Tryz.ntmps239
  go_wp2
  all_goals (go_ret2; refine ⟨ret_bi ?_ rfl, by repeat (first | exact Below.refl _ _ | apply r_below_more | apply below_drew | apply r_below_drewN)⟩; simp_all)
set_option maxHeartbeats 1000000 in
theorem Holds_7 (c : Cor) (w : World) : Calls Tryz.prog 239 #[c.val, r_vI 7] w fun e w' => e = .returned (.tuple #[.bool (!c.v), r_vI 0]) ∧ Below w.heap.size w w' := by
  go_enter Tryz.func239, Tryz.ntmps239
  go_wp2
  all_goals (go_ret2; refine ⟨ret_bi ?_ rfl, by repeat (first | exact Below.refl _ _ | apply r_below_more | apply below_drew | apply r_below_drewN)⟩; simp_all)
set_option maxHeartbeats 1000000 in
theorem Holds_8 (c : Cor) (w : World) : Calls Tryz.prog 239 #[c.val, r_vI 8] w fun e w' => e = .returned (.tuple #[.bool (c.c && !c.z), r_vI 0]) ∧ Below w.heap.size w w' := by
  go_enter Tryz.func239, Tryz.ntmps239
  go_wp2
  all_goals (go_ret2; refine ⟨ret_bi ?_ rfl, by repeat (first | exact Below.refl _ _ | apply r_below_more | apply below_drew | apply r_below_drewN)⟩; simp_all)
set_option maxHeartbeats 1000000 in
theorem Holds_9 (c : Cor) (w : World) : Calls Tryz.prog 239 #[c.val, r_vI 9] w fun e w' => e = .returned (.tuple #[.bool (!(c.c && !c.z)), r_vI 0]) ∧ Below w.heap.size w w' := by
  go_enter Tryz.func239, Tryz.ntmps239
  go_wp2
  all_goals (go_ret2; refine ⟨ret_bi ?_ rfl, by repeat (first | exact Below.refl _ _ | apply r_below_more | apply below_drew | apply r_below_drewN)⟩; simp_all)
set_option maxHeartbeats 1000000 in
theorem Holds_10 (c : Cor) (w : World) : Calls Tryz.prog 239 #[c.val, r_vI 10] w fun e w' => e = .returned (.tuple #[.bool (c.n == c.v), r_vI 0]) ∧ Below w.heap.size w w' := by
  go_enter Tryz.func239, Tryz.ntmps239
  go_wp2
  all_goals (go_ret2; refine ⟨ret_bi ?_ rfl, by repeat (first | exact Below.refl _ _ | apply r_below_more | apply below_drew | apply r_below_drewN)⟩; simp_all)
set_option maxHeartbeats 1000000 in
theorem Holds_11 (c : Cor) (w : World) : Calls Tryz.prog 239 #[c.val, r_vI 11] w fun e w' => e = .returned (.tuple #[.bool (!(c.n == c.v)), r_vI 0]) ∧ Below w.heap.size w w' := by
  go_enter Tryz.func239, Tryz.ntmps239
  go_wp2
  all_goals (go_ret2; refine ⟨ret_bi ?_ rfl, by repeat (first | exact Below.refl _ _ | apply r_below_more | apply below_drew | apply r_below_drewN)⟩; simp_all)
set_option maxHeartbeats 1000000 in
theorem Holds_12 (c : Cor) (w : World) : Calls Tryz.prog 239 #[c.val, r_vI 12] w fun e w' => e = .returned (.tuple #[.bool (!c.z && (c.n == c.v)), r_vI 0]) ∧ Below w.heap.size w w' := by
  go_enter Tryz.func239, Tryz.ntmps239
  go_wp2
  all_goals (go_ret2; refine ⟨ret_bi ?_ rfl, by repeat (first | exact Below.refl _ _ | apply r_below_more | apply below_drew | apply r_below_drewN)⟩; simp_all)
set_option maxHeartbeats 1000000 in
theorem Holds_13 (c : Cor) (w : World) : Calls Tryz.prog 239 #[c.val, r_vI 13] w fun e w' => e = .returned (.tuple #[.bool (!(!c.z && (c.n == c.v))), r_vI 0]) ∧ Below w.heap.size w w' := by
  go_enter Tryz.func239, Tryz.ntmps239
  go_wp2
  all_goals (go_ret2; refine ⟨ret_bi ?_ rfl, by repeat (first | exact Below.refl _ _ | apply r_below_more | apply below_drew | apply r_below_drewN)⟩; simp_all)
set_option maxHeartbeats 1000000 in
theorem Holds_14 (c : Cor) (w : World) : Calls Tryz.prog 239 #[c.val, r_vI 14] w fun e w' => e = .returned (.tuple #[.bool true, r_vI 0]) ∧ Below w.heap.size w w' := by
  go_enter Tryz.func239, Tryz.ntmps239
  go_wp2
  all_goals (go_ret2; refine ⟨ret_bi ?_ rfl, by repeat (first | exact Below.refl _ _ | apply r_below_more | apply below_drew | apply r_below_drewN)⟩; simp_all)
set_option maxHeartbeats 1000000 in
theorem Holds_15 (c : Cor) (w : World) : Calls Tryz.prog 239 #[c.val, r_vI 15] w fun e w' => e = .returned (.tuple #[.bool true, r_vI 0]) ∧ Below w.heap.size w w' := by
  go_enter Tryz.func239, Tryz.ntmps239
  go_wp2
  all_goals (go_ret2; refine ⟨ret_bi ?_ rfl, by repeat (first | exact Below.refl _ _ | apply r_below_more | apply below_drew | apply r_below_drewN)⟩; simp_all)
set_option maxHeartbeats 1000000 in
theorem Holds_c (c : Cor) (cond : Int) (w : World) : Calls Tryz.prog 239 #[c.val, r_vI cond] w fun e w' => e = .returned (.tuple #[.bool (holdsV c cond), r_vI (condE cond)]) ∧ Below w.heap.size w w' := by
  by_cases h0 : 0 ≤ cond
  · by_cases h1 : cond ≤ 15
    · rcases (by omega : cond = 0 ∨ cond = 1 ∨ cond = 2 ∨ cond = 3 ∨ cond = 4 ∨ cond = 5 ∨ cond = 6 ∨ cond = 7 ∨ cond = 8 ∨ cond = 9 ∨ cond = 10 ∨ cond = 11 ∨ cond = 12 ∨ cond = 13 ∨ cond = 14 ∨ cond = 15) with rfl | rfl | rfl | rfl | rfl | rfl | rfl | rfl | rfl | rfl | rfl | rfl | rfl | rfl | rfl | rfl
      · exact Holds_0 c w
      · exact Holds_1 c w
      · exact Holds_2 c w
      · exact Holds_3 c w
      · exact Holds_4 c w
      · exact Holds_5 c w
      · exact Holds_6 c w
      · exact Holds_7 c w
      · exact Holds_8 c w
      · exact Holds_9 c w
      · exact Holds_10 c w
      · exact Holds_11 c w
      · exact Holds_12 c w
      · exact Holds_13 c w
      · exact Holds_14 c w
      · exact Holds_15 c w
    · have hb : Hid (condB cond = false) := by show _ = _; simp [condB]; omega
      have hv : Hid (holdsV c cond = false) := by show _ = _; simp [holdsV, show (cond == 0) = false by simp; omega, show (cond == 1) = false by simp; omega, show (cond == 2) = false by simp; omega, show (cond == 3) = false by simp; omega, show (cond == 4) = false by simp; omega, show (cond == 5) = false by simp; omega, show (cond == 6) = false by simp; omega, show (cond == 7) = false by simp; omega, show (cond == 8) = false by simp; omega, show (cond == 9) = false by simp; omega, show (cond == 10) = false by simp; omega, show (cond == 11) = false by simp; omega, show (cond == 12) = false by simp; omega, show (cond == 13) = false by simp; omega, show (cond == 14) = false by simp; omega, show (cond == 15) = false by simp; omega]
      have h2 : 15 < cond := by omega
      go_enter Tryz.func239, Tryz.ntmps239
      go_wp2
      go_ret2
      exact ⟨ret_bi hv.out.symm (by simp [condE, hb.out]), by repeat (first | exact Below.refl _ _ | apply r_below_more | apply below_drew | apply r_below_drewN)⟩
  · have hb : Hid (condB cond = false) := by show _ = _; simp [condB]; omega
    have hv : Hid (holdsV c cond = false) := by show _ = _; simp [holdsV, show (cond == 0) = false by simp; omega, show (cond == 1) = false by simp; omega, show (cond == 2) = false by simp; omega, show (cond == 3) = false by simp; omega, show (cond == 4) = false by simp; omega, show (cond == 5) = false by simp; omega, show (cond == 6) = false by simp; omega, show (cond == 7) = false by simp; omega, show (cond == 8) = false by simp; omega, show (cond == 9) = false by simp; omega, show (cond == 10) = false by simp; omega, show (cond == 11) = false by simp; omega, show (cond == 12) = false by simp; omega, show (cond == 13) = false by simp; omega, show (cond == 14) = false by simp; omega, show (cond == 15) = false by simp; omega]
    have h2 : cond < 0 := by omega
    go_enter Tryz.func239, Tryz.ntmps239
    go_wp2
    go_ret2
    exact ⟨ret_bi hv.out.symm (by simp [condE, hb.out]), by repeat (first | exact Below.refl _ _ | apply r_below_more | apply below_drew | apply r_below_drewN)⟩
end Go.Proofs.YtbjcdpmhmebjnaaGreat
