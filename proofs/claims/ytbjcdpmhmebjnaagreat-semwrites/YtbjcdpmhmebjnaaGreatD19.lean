/- What MovWide does to a step: a contract. -/
import Derived.Test.YtbjcdpmhmebjnaaGreatD18
namespace Go.Proofs.YtbjcdpmhmebjnaaGreat
open Go.RowKit
set_option linter.unusedVariables false

set_option maxRecDepth 4000 in
set_option maxHeartbeats 2000000 in
theorem stMovWide_Z (g : Nat) (i : Ins) (c : Cor) (k : Gt) (e : Int) (w : World) (h : w.heap[g]? = some (.cells (Stp.cells ⟨i, c, k, e⟩) 58)) (h1 : (i.sub == 0) = false) (h3 : (i.sub == 3) = false) (h0 : 0 ≤ i.amount) (h63 : i.amount ≤ 63) (m S : Int) (hm : i.imm % 18446744073709551616 = m) (hS : IntKind.u64.wrap (m * 2 ^ i.amount.toNat) = S) : Calls Tryz.prog 130 #[.pointer (some ⟨g, 0, none⟩)] w fun e2 w' => e2 = .returned (.tuple #[]) ∧ w'.heap[g]? = some (.cells (Stp.cells ⟨i, setXV c i.rd S, k, e⟩) 58) ∧ But g w w' := by
  go_enter Tryz.func130, Tryz.ntmps130
  go_upto_region 0 with fail
  refine Chn.wp_region_chain (Ph g i (fun _ => c) k e w) [] [(.pointer (some ⟨g, 0, none⟩)), (.pointer (some ⟨g, 0, none⟩)), (.pointer (some ⟨g, 0, none⟩)), (.pointer (some ⟨g, 6, none⟩)), (.int .i64 i.imm), (.int .u64 m), (.pointer (some ⟨g, 0, none⟩)), (.pointer (some ⟨g, 0, none⟩)), (.pointer (some ⟨g, 0, none⟩)), (.pointer (some ⟨g, 8, none⟩)), (.int .i64 i.amount), (.int .u64 S), (.int .u64 S)] (by kernel_rfl) (by kernel_rfl) (by kernel_rfl) (by kernel_rfl) (ph_start h) ?_
  refine ⟨fun j w1 hC => by exact Chn.upon_pure hC (fun F hF => by (go_simp <;> exact hF)), ?_⟩
  simp only [Act.put, List.setIfInBounds_toArray, List.set_cons_succ, List.set_cons_zero]
  refine ⟨fun j w1 hC => by exact Chn.upon_pure hC (fun F hF => by (go_simp <;> exact hF)), ?_⟩
  simp only [Act.put, List.setIfInBounds_toArray, List.set_cons_succ, List.set_cons_zero]
  refine ⟨fun j w1 hC => by exact Chn.upon_pure hC (fun F hF => by (go_simp <;> exact hF)), ?_⟩
  simp only [Act.put, List.setIfInBounds_toArray, List.set_cons_succ, List.set_cons_zero]
  refine ⟨fun j w1 hC => by exact Chn.upon_pure hC (fun F hF => by (go_simp <;> exact hF)), ?_⟩
  simp only [Act.put, List.setIfInBounds_toArray, List.set_cons_succ, List.set_cons_zero]
  refine ⟨fun j w1 hC => by have hq := at_i hC.1 6 (.int .i64 i.imm) (by decide) rfl; exact Chn.upon_pure hC (fun F hF => by (go_simp <;> exact hF)), ?_⟩
  simp only [Act.put, List.setIfInBounds_toArray, List.set_cons_succ, List.set_cons_zero]
  refine ⟨fun j w1 hC => by exact Chn.upon_int hC (IntKind.u64.wrap i.imm) (by rw [wrapU]; exact hm) (fun F hF => by (go_simp <;> exact hF)), ?_⟩
  simp only [Act.put, List.setIfInBounds_toArray, List.set_cons_succ, List.set_cons_zero]
  refine ⟨fun j w1 hC => by exact Chn.upon_pure hC (fun F hF => by (go_simp <;> exact hF)), ?_⟩
  simp only [Act.put, List.setIfInBounds_toArray, List.set_cons_succ, List.set_cons_zero]
  refine ⟨fun j w1 hC => by exact Chn.upon_pure hC (fun F hF => by (go_simp <;> exact hF)), ?_⟩
  simp only [Act.put, List.setIfInBounds_toArray, List.set_cons_succ, List.set_cons_zero]
  refine ⟨fun j w1 hC => by exact Chn.upon_pure hC (fun F hF => by (go_simp <;> exact hF)), ?_⟩
  simp only [Act.put, List.setIfInBounds_toArray, List.set_cons_succ, List.set_cons_zero]
  refine ⟨fun j w1 hC => by exact Chn.upon_pure hC (fun F hF => by (go_simp <;> exact hF)), ?_⟩
  simp only [Act.put, List.setIfInBounds_toArray, List.set_cons_succ, List.set_cons_zero]
  refine ⟨fun j w1 hC => by have hq := at_i hC.1 8 (.int .i64 i.amount) (by decide) rfl; exact Chn.upon_pure hC (fun F hF => by (go_simp <;> exact hF)), ?_⟩
  simp only [Act.put, List.setIfInBounds_toArray, List.set_cons_succ, List.set_cons_zero]
  refine ⟨fun j w1 hC => by exact Chn.upon_pure hC (fun F hF => by (go_simp <;> exact hF)), ?_⟩
  simp only [Act.put, List.setIfInBounds_toArray, List.set_cons_succ, List.set_cons_zero]
  refine ⟨fun j w1 hC => by exact Chn.upon_pure hC (fun F hF => by (go_simp <;> exact hF)), ?_⟩
  simp only [Act.put, List.setIfInBounds_toArray, List.set_cons_succ, List.set_cons_zero]
  intro w2 hC
  have c1 := at_i hC.1 1 (.int .i64 i.sub) (by decide) rfl
  have c2 := at_i hC.1 2 (.int .i64 i.rd) (by decide) rfl
  go_wp2_with (go_at_call 196; refine (setX_c g ⟨i, c, k, e⟩ i.rd _ _ hC.1).mono ?_; rintro e2 w3 ⟨rfl, hs3, hB3⟩; dsimp only)
  first | go_end0 | ((try simp only [Exit.inBlock, Exit.then]); refine bodyPost_ret (results_none rfl _ _ _) rfl ?_)
  exact ⟨rfl, hs3, hC.2.trans hB3⟩
set_option maxRecDepth 4000 in
set_option maxHeartbeats 2000000 in
theorem stMovWide_N (g : Nat) (i : Ins) (c : Cor) (k : Gt) (e : Int) (w : World) (h : w.heap[g]? = some (.cells (Stp.cells ⟨i, c, k, e⟩) 58)) (h1 : i.sub = 0) (h0 : 0 ≤ i.amount) (h63 : i.amount ≤ 63) (m S : Int) (hm : i.imm % 18446744073709551616 = m) (hS : IntKind.u64.wrap (m * 2 ^ i.amount.toNat) = S) : Calls Tryz.prog 130 #[.pointer (some ⟨g, 0, none⟩)] w fun e2 w' => e2 = .returned (.tuple #[]) ∧ w'.heap[g]? = some (.cells (Stp.cells ⟨i, setXV c i.rd (bits .xor .u64 IntKind.u64.max S), k, e⟩) 58) ∧ But g w w' := by
  go_enter Tryz.func130, Tryz.ntmps130
  go_upto_region 0 with fail
  refine Chn.wp_region_chain (Ph g i (fun _ => c) k e w) [] [(.pointer (some ⟨g, 0, none⟩)), (.pointer (some ⟨g, 0, none⟩)), (.pointer (some ⟨g, 0, none⟩)), (.pointer (some ⟨g, 6, none⟩)), (.int .i64 i.imm), (.int .u64 m), (.pointer (some ⟨g, 0, none⟩)), (.pointer (some ⟨g, 0, none⟩)), (.pointer (some ⟨g, 0, none⟩)), (.pointer (some ⟨g, 8, none⟩)), (.int .i64 i.amount), (.int .u64 S), (.int .u64 S)] (by kernel_rfl) (by kernel_rfl) (by kernel_rfl) (by kernel_rfl) (ph_start h) ?_
  refine ⟨fun j w1 hC => by exact Chn.upon_pure hC (fun F hF => by (go_simp <;> exact hF)), ?_⟩
  simp only [Act.put, List.setIfInBounds_toArray, List.set_cons_succ, List.set_cons_zero]
  refine ⟨fun j w1 hC => by exact Chn.upon_pure hC (fun F hF => by (go_simp <;> exact hF)), ?_⟩
  simp only [Act.put, List.setIfInBounds_toArray, List.set_cons_succ, List.set_cons_zero]
  refine ⟨fun j w1 hC => by exact Chn.upon_pure hC (fun F hF => by (go_simp <;> exact hF)), ?_⟩
  simp only [Act.put, List.setIfInBounds_toArray, List.set_cons_succ, List.set_cons_zero]
  refine ⟨fun j w1 hC => by exact Chn.upon_pure hC (fun F hF => by (go_simp <;> exact hF)), ?_⟩
  simp only [Act.put, List.setIfInBounds_toArray, List.set_cons_succ, List.set_cons_zero]
  refine ⟨fun j w1 hC => by have hq := at_i hC.1 6 (.int .i64 i.imm) (by decide) rfl; exact Chn.upon_pure hC (fun F hF => by (go_simp <;> exact hF)), ?_⟩
  simp only [Act.put, List.setIfInBounds_toArray, List.set_cons_succ, List.set_cons_zero]
  refine ⟨fun j w1 hC => by exact Chn.upon_int hC (IntKind.u64.wrap i.imm) (by rw [wrapU]; exact hm) (fun F hF => by (go_simp <;> exact hF)), ?_⟩
  simp only [Act.put, List.setIfInBounds_toArray, List.set_cons_succ, List.set_cons_zero]
  refine ⟨fun j w1 hC => by exact Chn.upon_pure hC (fun F hF => by (go_simp <;> exact hF)), ?_⟩
  simp only [Act.put, List.setIfInBounds_toArray, List.set_cons_succ, List.set_cons_zero]
  refine ⟨fun j w1 hC => by exact Chn.upon_pure hC (fun F hF => by (go_simp <;> exact hF)), ?_⟩
  simp only [Act.put, List.setIfInBounds_toArray, List.set_cons_succ, List.set_cons_zero]
  refine ⟨fun j w1 hC => by exact Chn.upon_pure hC (fun F hF => by (go_simp <;> exact hF)), ?_⟩
  simp only [Act.put, List.setIfInBounds_toArray, List.set_cons_succ, List.set_cons_zero]
  refine ⟨fun j w1 hC => by exact Chn.upon_pure hC (fun F hF => by (go_simp <;> exact hF)), ?_⟩
  simp only [Act.put, List.setIfInBounds_toArray, List.set_cons_succ, List.set_cons_zero]
  refine ⟨fun j w1 hC => by have hq := at_i hC.1 8 (.int .i64 i.amount) (by decide) rfl; exact Chn.upon_pure hC (fun F hF => by (go_simp <;> exact hF)), ?_⟩
  simp only [Act.put, List.setIfInBounds_toArray, List.set_cons_succ, List.set_cons_zero]
  refine ⟨fun j w1 hC => by exact Chn.upon_pure hC (fun F hF => by (go_simp <;> exact hF)), ?_⟩
  simp only [Act.put, List.setIfInBounds_toArray, List.set_cons_succ, List.set_cons_zero]
  refine ⟨fun j w1 hC => by exact Chn.upon_pure hC (fun F hF => by (go_simp <;> exact hF)), ?_⟩
  simp only [Act.put, List.setIfInBounds_toArray, List.set_cons_succ, List.set_cons_zero]
  intro w2 hC
  have c1 := at_i hC.1 1 (.int .i64 i.sub) (by decide) rfl
  have c2 := at_i hC.1 2 (.int .i64 i.rd) (by decide) rfl
  rw [h1] at c1
  go_wp2_with (go_at_call 196; refine (setX_c g ⟨i, c, k, e⟩ i.rd _ _ hC.1).mono ?_; rintro e2 w3 ⟨rfl, hs3, hB3⟩; dsimp only)
  first | go_end0 | ((try simp only [Exit.inBlock, Exit.then]); refine bodyPost_ret (results_none rfl _ _ _) rfl ?_)
  rw [if_neg (by decide : ¬ IntKind.u64.signed = true)] at hs3
  exact ⟨rfl, hs3, hC.2.trans hB3⟩
set_option maxRecDepth 4000 in
set_option maxHeartbeats 2000000 in
theorem stMovWide_K (g : Nat) (i : Ins) (c : Cor) (k : Gt) (e : Int) (w : World) (h : w.heap[g]? = some (.cells (Stp.cells ⟨i, c, k, e⟩) 58)) (h1 : i.sub = 3) (h0 : 0 ≤ i.amount) (h63 : i.amount ≤ 63) (m S : Int) (hm : i.imm % 18446744073709551616 = m) (hS : IntKind.u64.wrap (m * 2 ^ i.amount.toNat) = S) (X M : Int) (hX : xV c i.rd = X) (hM : IntKind.u64.wrap (65535 * 2 ^ i.amount.toNat) = M) : Calls Tryz.prog 130 #[.pointer (some ⟨g, 0, none⟩)] w fun e2 w' => e2 = .returned (.tuple #[]) ∧ w'.heap[g]? = some (.cells (Stp.cells ⟨i, setXV c i.rd (bits .or .u64 S (bits .andNot .u64 X M)), k, e⟩) 58) ∧ But g w w' := by
  go_enter Tryz.func130, Tryz.ntmps130
  go_upto_region 0 with fail
  refine Chn.wp_region_chain (Ph g i (fun _ => c) k e w) [] [(.pointer (some ⟨g, 0, none⟩)), (.pointer (some ⟨g, 0, none⟩)), (.pointer (some ⟨g, 0, none⟩)), (.pointer (some ⟨g, 6, none⟩)), (.int .i64 i.imm), (.int .u64 m), (.pointer (some ⟨g, 0, none⟩)), (.pointer (some ⟨g, 0, none⟩)), (.pointer (some ⟨g, 0, none⟩)), (.pointer (some ⟨g, 8, none⟩)), (.int .i64 i.amount), (.int .u64 S), (.int .u64 S)] (by kernel_rfl) (by kernel_rfl) (by kernel_rfl) (by kernel_rfl) (ph_start h) ?_
  refine ⟨fun j w1 hC => by exact Chn.upon_pure hC (fun F hF => by (go_simp <;> exact hF)), ?_⟩
  simp only [Act.put, List.setIfInBounds_toArray, List.set_cons_succ, List.set_cons_zero]
  refine ⟨fun j w1 hC => by exact Chn.upon_pure hC (fun F hF => by (go_simp <;> exact hF)), ?_⟩
  simp only [Act.put, List.setIfInBounds_toArray, List.set_cons_succ, List.set_cons_zero]
  refine ⟨fun j w1 hC => by exact Chn.upon_pure hC (fun F hF => by (go_simp <;> exact hF)), ?_⟩
  simp only [Act.put, List.setIfInBounds_toArray, List.set_cons_succ, List.set_cons_zero]
  refine ⟨fun j w1 hC => by exact Chn.upon_pure hC (fun F hF => by (go_simp <;> exact hF)), ?_⟩
  simp only [Act.put, List.setIfInBounds_toArray, List.set_cons_succ, List.set_cons_zero]
  refine ⟨fun j w1 hC => by have hq := at_i hC.1 6 (.int .i64 i.imm) (by decide) rfl; exact Chn.upon_pure hC (fun F hF => by (go_simp <;> exact hF)), ?_⟩
  simp only [Act.put, List.setIfInBounds_toArray, List.set_cons_succ, List.set_cons_zero]
  refine ⟨fun j w1 hC => by exact Chn.upon_int hC (IntKind.u64.wrap i.imm) (by rw [wrapU]; exact hm) (fun F hF => by (go_simp <;> exact hF)), ?_⟩
  simp only [Act.put, List.setIfInBounds_toArray, List.set_cons_succ, List.set_cons_zero]
  refine ⟨fun j w1 hC => by exact Chn.upon_pure hC (fun F hF => by (go_simp <;> exact hF)), ?_⟩
  simp only [Act.put, List.setIfInBounds_toArray, List.set_cons_succ, List.set_cons_zero]
  refine ⟨fun j w1 hC => by exact Chn.upon_pure hC (fun F hF => by (go_simp <;> exact hF)), ?_⟩
  simp only [Act.put, List.setIfInBounds_toArray, List.set_cons_succ, List.set_cons_zero]
  refine ⟨fun j w1 hC => by exact Chn.upon_pure hC (fun F hF => by (go_simp <;> exact hF)), ?_⟩
  simp only [Act.put, List.setIfInBounds_toArray, List.set_cons_succ, List.set_cons_zero]
  refine ⟨fun j w1 hC => by exact Chn.upon_pure hC (fun F hF => by (go_simp <;> exact hF)), ?_⟩
  simp only [Act.put, List.setIfInBounds_toArray, List.set_cons_succ, List.set_cons_zero]
  refine ⟨fun j w1 hC => by have hq := at_i hC.1 8 (.int .i64 i.amount) (by decide) rfl; exact Chn.upon_pure hC (fun F hF => by (go_simp <;> exact hF)), ?_⟩
  simp only [Act.put, List.setIfInBounds_toArray, List.set_cons_succ, List.set_cons_zero]
  refine ⟨fun j w1 hC => by exact Chn.upon_pure hC (fun F hF => by (go_simp <;> exact hF)), ?_⟩
  simp only [Act.put, List.setIfInBounds_toArray, List.set_cons_succ, List.set_cons_zero]
  refine ⟨fun j w1 hC => by exact Chn.upon_pure hC (fun F hF => by (go_simp <;> exact hF)), ?_⟩
  simp only [Act.put, List.setIfInBounds_toArray, List.set_cons_succ, List.set_cons_zero]
  intro w2 hC
  have c1 := at_i hC.1 1 (.int .i64 i.sub) (by decide) rfl
  rw [h1] at c1
  go_upto_region 5 with fail
  refine Chn.wp_region_chain (Ph g i (fun _ => c) k e w2) [7] [(.int .u64 S), (.pointer (some ⟨g, 0, none⟩)), (.pointer (some ⟨g, 0, none⟩)), (.pointer (some ⟨g, 0, none⟩)), (.pointer (some ⟨g, 0, none⟩)), (.pointer (some ⟨g, 2, none⟩)), (.int .i64 i.rd), (.int .u64 X), (.pointer (some ⟨g, 0, none⟩)), (.pointer (some ⟨g, 0, none⟩)), (.pointer (some ⟨g, 0, none⟩)), (.pointer (some ⟨g, 8, none⟩)), (.int .i64 i.amount), (.int .u64 M), (.int .u64 (bits .andNot .u64 X M)), (.int .u64 (bits .or .u64 S (bits .andNot .u64 X M))), (.int .u64 (bits .or .u64 S (bits .andNot .u64 X M)))] (by kernel_rfl) (by kernel_rfl) (by kernel_rfl) (by kernel_rfl) (ph_start hC.1) ?_
  refine ⟨fun j w1 hC => by exact Chn.upon_pure hC (fun F hF => by (go_simp <;> exact hF)), ?_⟩
  simp only [Act.put, List.setIfInBounds_toArray, List.set_cons_succ, List.set_cons_zero]
  refine ⟨fun j w1 hC => by exact Chn.upon_pure hC (fun F hF => by (go_simp <;> exact hF)), ?_⟩
  simp only [Act.put, List.setIfInBounds_toArray, List.set_cons_succ, List.set_cons_zero]
  refine ⟨fun j w1 hC => by exact Chn.upon_pure hC (fun F hF => by (go_simp <;> exact hF)), ?_⟩
  simp only [Act.put, List.setIfInBounds_toArray, List.set_cons_succ, List.set_cons_zero]
  refine ⟨fun j w1 hC => by exact Chn.upon_pure hC (fun F hF => by (go_simp <;> exact hF)), ?_⟩
  simp only [Act.put, List.setIfInBounds_toArray, List.set_cons_succ, List.set_cons_zero]
  refine ⟨fun j w1 hC => by exact Chn.upon_pure hC (fun F hF => by (go_simp <;> exact hF)), ?_⟩
  simp only [Act.put, List.setIfInBounds_toArray, List.set_cons_succ, List.set_cons_zero]
  refine ⟨fun j w1 hC => by exact Chn.upon_pure hC (fun F hF => by (go_simp <;> exact hF)), ?_⟩
  simp only [Act.put, List.setIfInBounds_toArray, List.set_cons_succ, List.set_cons_zero]
  refine ⟨fun j w1 hC => by have hq := at_i hC.1 2 (.int .i64 i.rd) (by decide) rfl; exact Chn.upon_pure hC (fun F hF => by (go_simp <;> exact hF)), ?_⟩
  simp only [Act.put, List.setIfInBounds_toArray, List.set_cons_succ, List.set_cons_zero]
  refine ⟨fun w1 hC => by exact Chn.upon_call (sx_c g ⟨i, c, k, e⟩ i.rd w1 hC.1) (fun e2 w2 hh => ⟨by rw [hh.1]; show _ = Ending.returned (.int .u64 X); rw [← hX], hC.same rfl hh.2⟩) (fun F hF => by (go_simp <;> exact hF)), ?_⟩
  simp only [Act.put, List.setIfInBounds_toArray, List.set_cons_succ, List.set_cons_zero]
  refine ⟨fun j w1 hC => by exact Chn.upon_pure hC (fun F hF => by (go_simp <;> exact hF)), ?_⟩
  simp only [Act.put, List.setIfInBounds_toArray, List.set_cons_succ, List.set_cons_zero]
  refine ⟨fun j w1 hC => by exact Chn.upon_pure hC (fun F hF => by (go_simp <;> exact hF)), ?_⟩
  simp only [Act.put, List.setIfInBounds_toArray, List.set_cons_succ, List.set_cons_zero]
  refine ⟨fun j w1 hC => by exact Chn.upon_pure hC (fun F hF => by (go_simp <;> exact hF)), ?_⟩
  simp only [Act.put, List.setIfInBounds_toArray, List.set_cons_succ, List.set_cons_zero]
  refine ⟨fun j w1 hC => by exact Chn.upon_pure hC (fun F hF => by (go_simp <;> exact hF)), ?_⟩
  simp only [Act.put, List.setIfInBounds_toArray, List.set_cons_succ, List.set_cons_zero]
  refine ⟨fun j w1 hC => by have hq := at_i hC.1 8 (.int .i64 i.amount) (by decide) rfl; exact Chn.upon_pure hC (fun F hF => by (go_simp <;> exact hF)), ?_⟩
  simp only [Act.put, List.setIfInBounds_toArray, List.set_cons_succ, List.set_cons_zero]
  refine ⟨fun j w1 hC => by exact Chn.upon_pure hC (fun F hF => by (go_simp <;> exact hF)), ?_⟩
  simp only [Act.put, List.setIfInBounds_toArray, List.set_cons_succ, List.set_cons_zero]
  refine ⟨fun j w1 hC => by exact Chn.upon_pure hC (fun F hF => by (go_simp <;> exact hF)), ?_⟩
  simp only [Act.put, List.setIfInBounds_toArray, List.set_cons_succ, List.set_cons_zero]
  refine ⟨fun j w1 hC => by exact Chn.upon_pure hC (fun F hF => by (go_simp <;> exact hF)), ?_⟩
  simp only [Act.put, List.setIfInBounds_toArray, List.set_cons_succ, List.set_cons_zero]
  refine ⟨fun j w1 hC => by exact Chn.upon_pure hC (fun F hF => by (go_simp <;> exact hF)), ?_⟩
  simp only [Act.put, List.setIfInBounds_toArray, List.set_cons_succ, List.set_cons_zero]
  intro w4 hD
  have c2 := at_i hD.1 2 (.int .i64 i.rd) (by decide) rfl
  go_wp2_with (go_at_call 196; refine (setX_c g ⟨i, c, k, e⟩ i.rd _ _ hD.1).mono ?_; rintro e2 w3 ⟨rfl, hs3, hB3⟩; dsimp only)
  first | go_end0 | ((try simp only [Exit.inBlock, Exit.then]); refine bodyPost_ret (results_none rfl _ _ _) rfl ?_)
  exact ⟨rfl, hs3, (hC.2.trans hD.2).trans hB3⟩
end Go.Proofs.YtbjcdpmhmebjnaaGreat
/- Flags laid into a step's state: a contract. -/
namespace Go.Proofs.YtbjcdpmhmebjnaaGreat
open Go.RowKit
set_option linter.unusedVariables false

def flagV (c : Cor) (f : Flg) : Cor := { c with n := f.n, z := f.z, c := f.c, v := f.v }
def flagP (c : Cor) (f : Flg) : Nat → Cor
  | 0 => c
  | 1 => { c with n := f.n }
  | 2 => { c with n := f.n, z := f.z }
  | 3 => { c with n := f.n, z := f.z, c := f.c }
  | _ => flagV c f
theorem cell_at {w : World} {b : Nat} {cs : Array Value} {t : TypeId} (h : w.heap[b]? = some (.cells cs t)) (j : Nat) (v : Value) (hv : cs[j]? = some v) : w.cell? ⟨b, j, none⟩ = some v := by
  simp [World.cell?, h, hv]
def PhF (g : Nat) (i : Ins) (c : Cor) (f : Flg) (b : Nat) (k : Gt) (e : Int) (w0 : World) (j : Nat) (w : World) : Prop := Ph g i (flagP c f) k e w0 j w ∧ w.heap[b]? = some (.cells f.cells 173)
theorem upon_store_fl {g : Nat} {i : Ins} {c : Cor} {f : Flg} {b : Nat} {k : Gt} {e : Int} {w0 w : World} {j : Nat} {o : Oper} {a : Act} {x y : Operand} (hn : b ≠ g) (hC : PhF g i c f b k e w0 j w) (q : Nat) (v : Bool) (ho : o.op = .store 4 x y) (hx : a.eval x = .pointer (some ⟨g, 16 + q, none⟩)) (hy : a.eval y = .bool v) (hq : q < 49) (old : Value) (hold : (flagP c f j).cells[q]? = some old) (hd : (flagP c f j).cells.setIfInBounds q (.bool v) = (flagP c f (j + 1)).cells) :
    Chn.upon Tryz.prog (fun v w' => v = undef ∧ PhF g i c f b k e w0 (j + 1) w') w ((execOp a.eval o).run Tryz.prog w) := by
  have hg : w.heap[g]? = some (.cells (Stp.cells ⟨i, flagP c f j, k, e⟩) 58) := hC.1.1
  have hs : (storeVar 4 ⟨g, 16 + q, none⟩ (.bool v)).run Tryz.prog w = .ok () (w.setCell ⟨g, 16 + q, none⟩ (.bool v)) := by
    have hi := size4
    cases hq : Tryz.prog.info? 4 with
    | none => simp [hq] at hi
    | some inf =>
      have hs : inf.size = 1 := by simpa [hq] using hi
      have hadd : (⟨g, 16 + q, none⟩ : Addr).add 0 = ⟨g, 16 + q, none⟩ := by unfold Addr.add; split <;> simp_all
      have hc : w.cell? ⟨g, 16 + q, none⟩ = some old := at_c hg q _ (by assumption) hold
      have hf : w.frozen? ⟨g, 16 + q, none⟩ = false := frozen_of_row _ _ _ _ _ hg
      have hst : (store ⟨g, 16 + q, none⟩ (.bool v) .plain).run Tryz.prog w = .ok () (w.setCell ⟨g, 16 + q, none⟩ (.bool v)) := by
        rw [run_store Tryz.prog w _ _ _ rfl, hc, hf]; rfl
      simp [storeVar, sizeOf, typeInfo, hq, hs, Value.cells, storeCells, hadd, hst]
  unfold execOp
  simp only [ho, hx, hy, Instr.storeAt, Instr.sureAddr, Sem.run_bind, Sem.run_pure, Result.andThen_ok, hs]
  refine ⟨rfl, hC.1.next (row_setK hg q hq _ _ hd) (but_setCell _ _ _ _), ?_⟩
  rw [heap_setCell_other _ _ _ _ hn]; exact hC.2
set_option maxRecDepth 4000 in
set_option maxHeartbeats 400000 in
theorem setFlags_yes (g : Nat) (i : Ins) (c : Cor) (k : Gt) (e : Int) (w : World) (h : w.heap[g]? = some (.cells (Stp.cells ⟨i, c, k, e⟩) 58)) (f : Flg) (hf : i.flags = true) : Calls Tryz.prog 228 #[.pointer (some ⟨g, 0, none⟩), f.val] w fun e2 w' => e2 = .returned (.tuple #[]) ∧ w'.heap[g]? = some (.cells (Stp.cells ⟨i, flagV c f, k, e⟩) 58) ∧ But g w w' := by
  go_enter Tryz.func228, Tryz.ntmps228
  go_upto_region 1 with fail
  have hB := r_below_alloc w (.cells f.cells 173)
  have hs := keep_row h hB
  have hb := heap_alloc_new w (.cells f.cells 173)
  have hn : w.heap.size ≠ g := by have := (Array.getElem?_eq_some_iff.1 h).1; omega
  generalize w.alloc _ = w1 at hB hs hb ⊢
  generalize w.heap.size = b at hb hn ⊢
  have c12 := at_i hs 12 (.bool i.flags) (by decide) rfl
  rw [hf] at c12
  go_upto_region 2 with fail
  refine Chn.wp_region_chain (PhF g i c f b k e w1) [15, 19, 23, 27] [(.pointer (some ⟨g, 0, none⟩)), (.pointer (some ⟨g, 0, none⟩)), (.pointer (some ⟨g, 0, none⟩)), (.pointer (some ⟨g, 0, none⟩)), (.pointer (some ⟨b, 0, none⟩)), (.bool f.n), (.pointer (some ⟨b, 1, none⟩)), (.bool f.z), (.pointer (some ⟨b, 2, none⟩)), (.bool f.c), (.pointer (some ⟨b, 3, none⟩)), (.bool f.v), (.pointer (some ⟨g, 0, none⟩)), (.pointer (some ⟨g, 16, none⟩)), (.pointer (some ⟨g, 50, none⟩)), undef, (.pointer (some ⟨g, 0, none⟩)), (.pointer (some ⟨g, 16, none⟩)), (.pointer (some ⟨g, 51, none⟩)), undef, (.pointer (some ⟨g, 0, none⟩)), (.pointer (some ⟨g, 16, none⟩)), (.pointer (some ⟨g, 52, none⟩)), undef, (.pointer (some ⟨g, 0, none⟩)), (.pointer (some ⟨g, 16, none⟩)), (.pointer (some ⟨g, 53, none⟩)), undef] (by kernel_rfl) (by kernel_rfl) (by kernel_rfl) (by kernel_rfl) (⟨ph_start hs, hb⟩) ?_
  refine ⟨fun j w1 hC => by exact Chn.upon_pure hC (fun F hF => by (go_simp <;> exact hF)), ?_⟩
  simp only [Act.put, List.setIfInBounds_toArray, List.set_cons_succ, List.set_cons_zero]
  refine ⟨fun j w1 hC => by exact Chn.upon_pure hC (fun F hF => by (go_simp <;> exact hF)), ?_⟩
  simp only [Act.put, List.setIfInBounds_toArray, List.set_cons_succ, List.set_cons_zero]
  refine ⟨fun j w1 hC => by exact Chn.upon_pure hC (fun F hF => by (go_simp <;> exact hF)), ?_⟩
  simp only [Act.put, List.setIfInBounds_toArray, List.set_cons_succ, List.set_cons_zero]
  refine ⟨fun j w1 hC => by exact Chn.upon_pure hC (fun F hF => by (go_simp <;> exact hF)), ?_⟩
  simp only [Act.put, List.setIfInBounds_toArray, List.set_cons_succ, List.set_cons_zero]
  refine ⟨fun j w1 hC => by exact Chn.upon_pure hC (fun F hF => by (go_simp <;> exact hF)), ?_⟩
  simp only [Act.put, List.setIfInBounds_toArray, List.set_cons_succ, List.set_cons_zero]
  refine ⟨fun j w1 hC => by have hq := cell_at hC.2 0 (.bool f.n) rfl; exact Chn.upon_pure hC (fun F hF => by (go_simp <;> exact hF)), ?_⟩
  simp only [Act.put, List.setIfInBounds_toArray, List.set_cons_succ, List.set_cons_zero]
  refine ⟨fun j w1 hC => by exact Chn.upon_pure hC (fun F hF => by (go_simp <;> exact hF)), ?_⟩
  simp only [Act.put, List.setIfInBounds_toArray, List.set_cons_succ, List.set_cons_zero]
  refine ⟨fun j w1 hC => by have hq := cell_at hC.2 1 (.bool f.z) rfl; exact Chn.upon_pure hC (fun F hF => by (go_simp <;> exact hF)), ?_⟩
  simp only [Act.put, List.setIfInBounds_toArray, List.set_cons_succ, List.set_cons_zero]
  refine ⟨fun j w1 hC => by exact Chn.upon_pure hC (fun F hF => by (go_simp <;> exact hF)), ?_⟩
  simp only [Act.put, List.setIfInBounds_toArray, List.set_cons_succ, List.set_cons_zero]
  refine ⟨fun j w1 hC => by have hq := cell_at hC.2 2 (.bool f.c) rfl; exact Chn.upon_pure hC (fun F hF => by (go_simp <;> exact hF)), ?_⟩
  simp only [Act.put, List.setIfInBounds_toArray, List.set_cons_succ, List.set_cons_zero]
  refine ⟨fun j w1 hC => by exact Chn.upon_pure hC (fun F hF => by (go_simp <;> exact hF)), ?_⟩
  simp only [Act.put, List.setIfInBounds_toArray, List.set_cons_succ, List.set_cons_zero]
  refine ⟨fun j w1 hC => by have hq := cell_at hC.2 3 (.bool f.v) rfl; exact Chn.upon_pure hC (fun F hF => by (go_simp <;> exact hF)), ?_⟩
  simp only [Act.put, List.setIfInBounds_toArray, List.set_cons_succ, List.set_cons_zero]
  refine ⟨fun j w1 hC => by exact Chn.upon_pure hC (fun F hF => by (go_simp <;> exact hF)), ?_⟩
  simp only [Act.put, List.setIfInBounds_toArray, List.set_cons_succ, List.set_cons_zero]
  refine ⟨fun j w1 hC => by exact Chn.upon_pure hC (fun F hF => by (go_simp <;> exact hF)), ?_⟩
  simp only [Act.put, List.setIfInBounds_toArray, List.set_cons_succ, List.set_cons_zero]
  refine ⟨fun j w1 hC => by exact Chn.upon_pure hC (fun F hF => by (go_simp <;> exact hF)), ?_⟩
  simp only [Act.put, List.setIfInBounds_toArray, List.set_cons_succ, List.set_cons_zero]
  refine ⟨fun w1 hC => by exact upon_store_fl (j := 0) hn hC 34 f.n rfl rfl rfl (by decide) (.bool (flagP c f 0).n) (Cor.a34 _) (Cor.s34 _ _), ?_⟩
  simp only [Act.put]
  refine ⟨fun j w1 hC => by exact Chn.upon_pure hC (fun F hF => by (go_simp <;> exact hF)), ?_⟩
  simp only [Act.put, List.setIfInBounds_toArray, List.set_cons_succ, List.set_cons_zero]
  refine ⟨fun j w1 hC => by exact Chn.upon_pure hC (fun F hF => by (go_simp <;> exact hF)), ?_⟩
  simp only [Act.put, List.setIfInBounds_toArray, List.set_cons_succ, List.set_cons_zero]
  refine ⟨fun j w1 hC => by exact Chn.upon_pure hC (fun F hF => by (go_simp <;> exact hF)), ?_⟩
  simp only [Act.put, List.setIfInBounds_toArray, List.set_cons_succ, List.set_cons_zero]
  refine ⟨fun w1 hC => by exact upon_store_fl (j := 1) hn hC 35 f.z rfl rfl rfl (by decide) (.bool (flagP c f 1).z) (Cor.a35 _) (Cor.s35 _ _), ?_⟩
  simp only [Act.put]
  refine ⟨fun j w1 hC => by exact Chn.upon_pure hC (fun F hF => by (go_simp <;> exact hF)), ?_⟩
  simp only [Act.put, List.setIfInBounds_toArray, List.set_cons_succ, List.set_cons_zero]
  refine ⟨fun j w1 hC => by exact Chn.upon_pure hC (fun F hF => by (go_simp <;> exact hF)), ?_⟩
  simp only [Act.put, List.setIfInBounds_toArray, List.set_cons_succ, List.set_cons_zero]
  refine ⟨fun j w1 hC => by exact Chn.upon_pure hC (fun F hF => by (go_simp <;> exact hF)), ?_⟩
  simp only [Act.put, List.setIfInBounds_toArray, List.set_cons_succ, List.set_cons_zero]
  refine ⟨fun w1 hC => by exact upon_store_fl (j := 2) hn hC 36 f.c rfl rfl rfl (by decide) (.bool (flagP c f 2).c) (Cor.a36 _) (Cor.s36 _ _), ?_⟩
  simp only [Act.put]
  refine ⟨fun j w1 hC => by exact Chn.upon_pure hC (fun F hF => by (go_simp <;> exact hF)), ?_⟩
  simp only [Act.put, List.setIfInBounds_toArray, List.set_cons_succ, List.set_cons_zero]
  refine ⟨fun j w1 hC => by exact Chn.upon_pure hC (fun F hF => by (go_simp <;> exact hF)), ?_⟩
  simp only [Act.put, List.setIfInBounds_toArray, List.set_cons_succ, List.set_cons_zero]
  refine ⟨fun j w1 hC => by exact Chn.upon_pure hC (fun F hF => by (go_simp <;> exact hF)), ?_⟩
  simp only [Act.put, List.setIfInBounds_toArray, List.set_cons_succ, List.set_cons_zero]
  refine ⟨fun w1 hC => by exact upon_store_fl (j := 3) hn hC 37 f.v rfl rfl rfl (by decide) (.bool (flagP c f 3).v) (Cor.a37 _) (Cor.s37 _ _), ?_⟩
  simp only [Act.put]
  intro w2 hC
  go_wp2
  first | go_end0 | ((try simp only [Exit.inBlock, Exit.then]); refine bodyPost_ret (results_none rfl _ _ _) rfl ?_)
  exact ⟨rfl, hC.1.1, (but_below hB).trans hC.1.2⟩
end Go.Proofs.YtbjcdpmhmebjnaaGreat
/- The sum of a step, its flags laid: a contract. -/
namespace Go.Proofs.YtbjcdpmhmebjnaaGreat
open Go.RowKit
set_option linter.unusedVariables false

def setfV (i : Ins) (c : Cor) (f : Flg) : Cor := bif i.flags then flagV c f else c
theorem setFlags_c (g : Nat) (i : Ins) (c : Cor) (k : Gt) (e : Int) (w : World) (h : w.heap[g]? = some (.cells (Stp.cells ⟨i, c, k, e⟩) 58)) (f : Flg) : Calls Tryz.prog 228 #[.pointer (some ⟨g, 0, none⟩), f.val] w fun e2 w' => e2 = .returned (.tuple #[]) ∧ w'.heap[g]? = some (.cells (Stp.cells ⟨i, setfV i c f, k, e⟩) 58) ∧ But g w w' := by
  cases hf : i.flags
  · refine (setFlags_no g ⟨i, c, k, e⟩ f w h hf).mono ?_
    rintro e2 w2 ⟨rfl, hB⟩
    refine ⟨rfl, ?_, but_below hB⟩
    unfold setfV; rw [hf]; exact keep_row h hB
  · refine (setFlags_yes g i c k e w h f hf).mono ?_
    rintro e2 w2 ⟨rfl, hs, hB⟩
    refine ⟨rfl, ?_, hB⟩
    unfold setfV; rw [hf]; exact hs
set_option maxHeartbeats 1000000 in
theorem stSum_A (g : Nat) (i : Ins) (c : Cor) (k : Gt) (e : Int) (w : World) (h : w.heap[g]? = some (.cells (Stp.cells ⟨i, c, k, e⟩) 58)) (hm : i.minus = false) (a b V : Int) (ha : Hid (U64 a)) (hb : Hid (U64 b)) (D : Cor) (hV : sumV a b false = V) (hD : setfV i c (addF a b false) = D) : Calls Tryz.prog 194 #[.pointer (some ⟨g, 0, none⟩), .int .u64 a, .int .u64 b] w fun e2 w' => e2 = .returned (.int .u64 V) ∧ w'.heap[g]? = some (.cells (Stp.cells ⟨i, D, k, e⟩) 58) ∧ But g w w' := by
  have c13 := at_i h 13 (.bool i.minus) (by decide) rfl
  rw [hm] at c13
  go_enter Tryz.func194, Tryz.ntmps194
  go_upto_region 4 with (first | (go_at_call 227; refine (Add_c _ _ _ ha hb _).mono ?_; rintro e w1 ⟨rfl, hB⟩; dsimp only; have H := (has_none w1)) | ((with_reducible refine wpList_store_new H rfl 173 _ _ rfl (addF a b false).cells rfl rfl (Flg.info _) ?_ (Flg.one _) ?_); (focus rfl); intro w2 H2; simp only [Act.put]))
  have hs := keep_row h (r_below_then hB H2.below)
  go_wp2_with (first | ((with_reducible refine wpList_load_ifA rfl 173 _ rfl _ rfl 173 _ (0, 0) _ (H2.get List.mem_cons_self) Tryz.underlying173 rfl (Flg.info _) ?_); simp only [Act.put, List.setIfInBounds_toArray, List.set_cons_succ, List.set_cons_zero]) | (go_at_call 228; refine (setFlags_c g i c k e _ hs _).mono ?_; rintro e w3 ⟨rfl, hs3, hB3⟩; dsimp only))
  go_ret
  rw [hD] at hs3
  subst hV
  exact ⟨rfl, hs3, (but_below (r_below_then hB H2.below)).trans hB3⟩
set_option maxHeartbeats 1000000 in
theorem stSum_S (g : Nat) (i : Ins) (c : Cor) (k : Gt) (e : Int) (w : World) (h : w.heap[g]? = some (.cells (Stp.cells ⟨i, c, k, e⟩) 58)) (hm : i.minus = true) (a b b2 V : Int) (ha : Hid (U64 a)) (hb : Hid (U64 b2)) (hb2 : bits .xor .u64 IntKind.u64.max b = b2) (D : Cor) (hV : sumV a b2 true = V) (hD : setfV i c (addF a b2 true) = D) : Calls Tryz.prog 194 #[.pointer (some ⟨g, 0, none⟩), .int .u64 a, .int .u64 b] w fun e2 w' => e2 = .returned (.int .u64 V) ∧ w'.heap[g]? = some (.cells (Stp.cells ⟨i, D, k, e⟩) 58) ∧ But g w w' := by
  have c13 := at_i h 13 (.bool i.minus) (by decide) rfl
  rw [hm] at c13
  go_enter Tryz.func194, Tryz.ntmps194
  go_upto_region 3 with fail
  rw [if_neg (by decide : ¬ IntKind.u64.signed = true), hb2]
  go_upto_region 4 with (first | (go_at_call 227; refine (Add_c _ _ _ ha hb _).mono ?_; rintro e w1 ⟨rfl, hB⟩; dsimp only; have H := (has_none w1)) | ((with_reducible refine wpList_store_new H rfl 173 _ _ rfl (addF a b2 true).cells rfl rfl (Flg.info _) ?_ (Flg.one _) ?_); (focus rfl); intro w2 H2; simp only [Act.put]))
  have hs := keep_row h (r_below_then hB H2.below)
  go_wp2_with (first | ((with_reducible refine wpList_load_ifA rfl 173 _ rfl _ rfl 173 _ (0, 0) _ (H2.get List.mem_cons_self) Tryz.underlying173 rfl (Flg.info _) ?_); simp only [Act.put, List.setIfInBounds_toArray, List.set_cons_succ, List.set_cons_zero]) | (go_at_call 228; refine (setFlags_c g i c k e _ hs _).mono ?_; rintro e w3 ⟨rfl, hs3, hB3⟩; dsimp only))
  go_ret
  rw [hD] at hs3
  subst hV
  exact ⟨rfl, hs3, (but_below (r_below_then hB H2.below)).trans hB3⟩
def pickA (c d f : Cor) : Nat → Cor
  | 0 => c
  | 1 => c
  | 2 => c
  | 3 => d
  | _ => f
set_option maxRecDepth 4000 in
set_option maxHeartbeats 2000000 in
theorem stAddReg_A (g : Nat) (i : Ins) (c : Cor) (k : Gt) (e : Int) (w : World) (h : w.heap[g]? = some (.cells (Stp.cells ⟨i, c, k, e⟩) 58)) (hm : i.minus = false) (X Y Z z V : Int) (hX : xV c i.rn = X) (hY : xV c i.rm = Y) (hU : Hid (U64 X)) (hU2 : Hid (U64 Y)) (hZ : shiftV Y i.shift i.amount = Z) (hz : shiftE i.shift i.amount = z) (hb : Hid (U64 Z)) (D : Cor) (hV : sumV X Z false = V) (hD : setfV i c (addF X Z false) = D) : Calls Tryz.prog 127 #[.pointer (some ⟨g, 0, none⟩)] w fun e2 w' => e2 = .returned (.tuple #[]) ∧ w'.heap[g]? = some (.cells (Stp.cells ⟨i, setXV D i.rd V, k, e⟩) 58) ∧ But g w w' := by
  go_enter Tryz.func127, Tryz.ntmps127
  refine Chn.wp_region_chain (Ph g i (pickA c D (setXV D i.rd V)) k e w) [13, 15, 16, 17] [(.pointer (some ⟨g, 0, none⟩)), (.pointer (some ⟨g, 0, none⟩)), (.pointer (some ⟨g, 0, none⟩)), (.pointer (some ⟨g, 0, none⟩)), (.pointer (some ⟨g, 2, none⟩)), (.int .i64 i.rd), (.pointer (some ⟨g, 0, none⟩)), (.pointer (some ⟨g, 0, none⟩)), (.pointer (some ⟨g, 0, none⟩)), (.pointer (some ⟨g, 0, none⟩)), (.pointer (some ⟨g, 0, none⟩)), (.pointer (some ⟨g, 3, none⟩)), (.int .i64 i.rn), (.int .u64 X), (.pointer (some ⟨g, 0, none⟩)), (.int .u64 Z), (.int .u64 V), (.tuple #[])] (by kernel_rfl) (by kernel_rfl) (by kernel_rfl) (by kernel_rfl) (ph_start h) ?_
  refine ⟨fun j w1 hC => by exact Chn.upon_pure hC (fun F hF => by (go_simp <;> exact hF)), ?_⟩
  simp only [Act.put, List.setIfInBounds_toArray, List.set_cons_succ, List.set_cons_zero]
  refine ⟨fun j w1 hC => by exact Chn.upon_pure hC (fun F hF => by (go_simp <;> exact hF)), ?_⟩
  simp only [Act.put, List.setIfInBounds_toArray, List.set_cons_succ, List.set_cons_zero]
  refine ⟨fun j w1 hC => by exact Chn.upon_pure hC (fun F hF => by (go_simp <;> exact hF)), ?_⟩
  simp only [Act.put, List.setIfInBounds_toArray, List.set_cons_succ, List.set_cons_zero]
  refine ⟨fun j w1 hC => by exact Chn.upon_pure hC (fun F hF => by (go_simp <;> exact hF)), ?_⟩
  simp only [Act.put, List.setIfInBounds_toArray, List.set_cons_succ, List.set_cons_zero]
  refine ⟨fun j w1 hC => by exact Chn.upon_pure hC (fun F hF => by (go_simp <;> exact hF)), ?_⟩
  simp only [Act.put, List.setIfInBounds_toArray, List.set_cons_succ, List.set_cons_zero]
  refine ⟨fun j w1 hC => by have hq := at_i hC.1 2 (.int .i64 i.rd) (by decide) rfl; exact Chn.upon_pure hC (fun F hF => by (go_simp <;> exact hF)), ?_⟩
  simp only [Act.put, List.setIfInBounds_toArray, List.set_cons_succ, List.set_cons_zero]
  refine ⟨fun j w1 hC => by exact Chn.upon_pure hC (fun F hF => by (go_simp <;> exact hF)), ?_⟩
  simp only [Act.put, List.setIfInBounds_toArray, List.set_cons_succ, List.set_cons_zero]
  refine ⟨fun j w1 hC => by exact Chn.upon_pure hC (fun F hF => by (go_simp <;> exact hF)), ?_⟩
  simp only [Act.put, List.setIfInBounds_toArray, List.set_cons_succ, List.set_cons_zero]
  refine ⟨fun j w1 hC => by exact Chn.upon_pure hC (fun F hF => by (go_simp <;> exact hF)), ?_⟩
  simp only [Act.put, List.setIfInBounds_toArray, List.set_cons_succ, List.set_cons_zero]
  refine ⟨fun j w1 hC => by exact Chn.upon_pure hC (fun F hF => by (go_simp <;> exact hF)), ?_⟩
  simp only [Act.put, List.setIfInBounds_toArray, List.set_cons_succ, List.set_cons_zero]
  refine ⟨fun j w1 hC => by exact Chn.upon_pure hC (fun F hF => by (go_simp <;> exact hF)), ?_⟩
  simp only [Act.put, List.setIfInBounds_toArray, List.set_cons_succ, List.set_cons_zero]
  refine ⟨fun j w1 hC => by exact Chn.upon_pure hC (fun F hF => by (go_simp <;> exact hF)), ?_⟩
  simp only [Act.put, List.setIfInBounds_toArray, List.set_cons_succ, List.set_cons_zero]
  refine ⟨fun j w1 hC => by have hq := at_i hC.1 3 (.int .i64 i.rn) (by decide) rfl; exact Chn.upon_pure hC (fun F hF => by (go_simp <;> exact hF)), ?_⟩
  simp only [Act.put, List.setIfInBounds_toArray, List.set_cons_succ, List.set_cons_zero]
  refine ⟨fun w1 hC => by exact Chn.upon_call (sx_c g ⟨i, c, k, e⟩ i.rn w1 hC.1) (fun e2 w2 hh => ⟨by rw [hh.1]; show _ = Ending.returned (.int .u64 X); rw [← hX], hC.same rfl hh.2⟩) (fun F hF => by (go_simp <;> exact hF)), ?_⟩
  simp only [Act.put, List.setIfInBounds_toArray, List.set_cons_succ, List.set_cons_zero]
  refine ⟨fun j w1 hC => by exact Chn.upon_pure hC (fun F hF => by (go_simp <;> exact hF)), ?_⟩
  simp only [Act.put, List.setIfInBounds_toArray, List.set_cons_succ, List.set_cons_zero]
  refine ⟨fun w1 hC => by exact Chn.upon_call (stShifted_c g i c k e w1 hC.1 Y Z z hY hU2 hZ hz) (fun e2 w2 hh => ⟨hh.1, hC.next hh.2.1 hh.2.2⟩) (fun F hF => by (go_simp <;> exact hF)), ?_⟩
  simp only [Act.put, List.setIfInBounds_toArray, List.set_cons_succ, List.set_cons_zero]
  refine ⟨fun w1 hC => by exact Chn.upon_call (stSum_A g i c k e w1 hC.1 hm X Z V hU hb D hV hD) (fun e2 w2 hh => ⟨hh.1, hC.next hh.2.1 hh.2.2⟩) (fun F hF => by (go_simp <;> exact hF)), ?_⟩
  simp only [Act.put, List.setIfInBounds_toArray, List.set_cons_succ, List.set_cons_zero]
  refine ⟨fun w1 hC => by exact Chn.upon_call (setX_c g ⟨i, D, k, e⟩ i.rd V w1 hC.1) (fun e2 w2 hh => ⟨hh.1, hC.next hh.2.1 hh.2.2⟩) (fun F hF => by (go_simp <;> exact hF)), ?_⟩
  simp only [Act.put, List.setIfInBounds_toArray, List.set_cons_succ, List.set_cons_zero]
  intro w2 hC
  go_wp2
  first | go_end0 | ((try simp only [Exit.inBlock, Exit.then]); refine bodyPost_ret (results_none rfl _ _ _) rfl ?_)
  exact ⟨rfl, hC⟩
set_option maxRecDepth 4000 in
set_option maxHeartbeats 2000000 in
theorem stAddReg_S (g : Nat) (i : Ins) (c : Cor) (k : Gt) (e : Int) (w : World) (h : w.heap[g]? = some (.cells (Stp.cells ⟨i, c, k, e⟩) 58)) (hm : i.minus = true) (X Y Z z b2 V : Int) (hX : xV c i.rn = X) (hY : xV c i.rm = Y) (hU : Hid (U64 X)) (hU2 : Hid (U64 Y)) (hZ : shiftV Y i.shift i.amount = Z) (hz : shiftE i.shift i.amount = z) (hb : Hid (U64 b2)) (hb2 : bits .xor .u64 IntKind.u64.max Z = b2) (D : Cor) (hV : sumV X b2 true = V) (hD : setfV i c (addF X b2 true) = D) : Calls Tryz.prog 127 #[.pointer (some ⟨g, 0, none⟩)] w fun e2 w' => e2 = .returned (.tuple #[]) ∧ w'.heap[g]? = some (.cells (Stp.cells ⟨i, setXV D i.rd V, k, e⟩) 58) ∧ But g w w' := by
  go_enter Tryz.func127, Tryz.ntmps127
  refine Chn.wp_region_chain (Ph g i (pickA c D (setXV D i.rd V)) k e w) [13, 15, 16, 17] [(.pointer (some ⟨g, 0, none⟩)), (.pointer (some ⟨g, 0, none⟩)), (.pointer (some ⟨g, 0, none⟩)), (.pointer (some ⟨g, 0, none⟩)), (.pointer (some ⟨g, 2, none⟩)), (.int .i64 i.rd), (.pointer (some ⟨g, 0, none⟩)), (.pointer (some ⟨g, 0, none⟩)), (.pointer (some ⟨g, 0, none⟩)), (.pointer (some ⟨g, 0, none⟩)), (.pointer (some ⟨g, 0, none⟩)), (.pointer (some ⟨g, 3, none⟩)), (.int .i64 i.rn), (.int .u64 X), (.pointer (some ⟨g, 0, none⟩)), (.int .u64 Z), (.int .u64 V), (.tuple #[])] (by kernel_rfl) (by kernel_rfl) (by kernel_rfl) (by kernel_rfl) (ph_start h) ?_
  refine ⟨fun j w1 hC => by exact Chn.upon_pure hC (fun F hF => by (go_simp <;> exact hF)), ?_⟩
  simp only [Act.put, List.setIfInBounds_toArray, List.set_cons_succ, List.set_cons_zero]
  refine ⟨fun j w1 hC => by exact Chn.upon_pure hC (fun F hF => by (go_simp <;> exact hF)), ?_⟩
  simp only [Act.put, List.setIfInBounds_toArray, List.set_cons_succ, List.set_cons_zero]
  refine ⟨fun j w1 hC => by exact Chn.upon_pure hC (fun F hF => by (go_simp <;> exact hF)), ?_⟩
  simp only [Act.put, List.setIfInBounds_toArray, List.set_cons_succ, List.set_cons_zero]
  refine ⟨fun j w1 hC => by exact Chn.upon_pure hC (fun F hF => by (go_simp <;> exact hF)), ?_⟩
  simp only [Act.put, List.setIfInBounds_toArray, List.set_cons_succ, List.set_cons_zero]
  refine ⟨fun j w1 hC => by exact Chn.upon_pure hC (fun F hF => by (go_simp <;> exact hF)), ?_⟩
  simp only [Act.put, List.setIfInBounds_toArray, List.set_cons_succ, List.set_cons_zero]
  refine ⟨fun j w1 hC => by have hq := at_i hC.1 2 (.int .i64 i.rd) (by decide) rfl; exact Chn.upon_pure hC (fun F hF => by (go_simp <;> exact hF)), ?_⟩
  simp only [Act.put, List.setIfInBounds_toArray, List.set_cons_succ, List.set_cons_zero]
  refine ⟨fun j w1 hC => by exact Chn.upon_pure hC (fun F hF => by (go_simp <;> exact hF)), ?_⟩
  simp only [Act.put, List.setIfInBounds_toArray, List.set_cons_succ, List.set_cons_zero]
  refine ⟨fun j w1 hC => by exact Chn.upon_pure hC (fun F hF => by (go_simp <;> exact hF)), ?_⟩
  simp only [Act.put, List.setIfInBounds_toArray, List.set_cons_succ, List.set_cons_zero]
  refine ⟨fun j w1 hC => by exact Chn.upon_pure hC (fun F hF => by (go_simp <;> exact hF)), ?_⟩
  simp only [Act.put, List.setIfInBounds_toArray, List.set_cons_succ, List.set_cons_zero]
  refine ⟨fun j w1 hC => by exact Chn.upon_pure hC (fun F hF => by (go_simp <;> exact hF)), ?_⟩
  simp only [Act.put, List.setIfInBounds_toArray, List.set_cons_succ, List.set_cons_zero]
  refine ⟨fun j w1 hC => by exact Chn.upon_pure hC (fun F hF => by (go_simp <;> exact hF)), ?_⟩
  simp only [Act.put, List.setIfInBounds_toArray, List.set_cons_succ, List.set_cons_zero]
  refine ⟨fun j w1 hC => by exact Chn.upon_pure hC (fun F hF => by (go_simp <;> exact hF)), ?_⟩
  simp only [Act.put, List.setIfInBounds_toArray, List.set_cons_succ, List.set_cons_zero]
  refine ⟨fun j w1 hC => by have hq := at_i hC.1 3 (.int .i64 i.rn) (by decide) rfl; exact Chn.upon_pure hC (fun F hF => by (go_simp <;> exact hF)), ?_⟩
  simp only [Act.put, List.setIfInBounds_toArray, List.set_cons_succ, List.set_cons_zero]
  refine ⟨fun w1 hC => by exact Chn.upon_call (sx_c g ⟨i, c, k, e⟩ i.rn w1 hC.1) (fun e2 w2 hh => ⟨by rw [hh.1]; show _ = Ending.returned (.int .u64 X); rw [← hX], hC.same rfl hh.2⟩) (fun F hF => by (go_simp <;> exact hF)), ?_⟩
  simp only [Act.put, List.setIfInBounds_toArray, List.set_cons_succ, List.set_cons_zero]
  refine ⟨fun j w1 hC => by exact Chn.upon_pure hC (fun F hF => by (go_simp <;> exact hF)), ?_⟩
  simp only [Act.put, List.setIfInBounds_toArray, List.set_cons_succ, List.set_cons_zero]
  refine ⟨fun w1 hC => by exact Chn.upon_call (stShifted_c g i c k e w1 hC.1 Y Z z hY hU2 hZ hz) (fun e2 w2 hh => ⟨hh.1, hC.next hh.2.1 hh.2.2⟩) (fun F hF => by (go_simp <;> exact hF)), ?_⟩
  simp only [Act.put, List.setIfInBounds_toArray, List.set_cons_succ, List.set_cons_zero]
  refine ⟨fun w1 hC => by exact Chn.upon_call (stSum_S g i c k e w1 hC.1 hm X Z b2 V hU hb hb2 D hV hD) (fun e2 w2 hh => ⟨hh.1, hC.next hh.2.1 hh.2.2⟩) (fun F hF => by (go_simp <;> exact hF)), ?_⟩
  simp only [Act.put, List.setIfInBounds_toArray, List.set_cons_succ, List.set_cons_zero]
  refine ⟨fun w1 hC => by exact Chn.upon_call (setX_c g ⟨i, D, k, e⟩ i.rd V w1 hC.1) (fun e2 w2 hh => ⟨hh.1, hC.next hh.2.1 hh.2.2⟩) (fun F hF => by (go_simp <;> exact hF)), ?_⟩
  simp only [Act.put, List.setIfInBounds_toArray, List.set_cons_succ, List.set_cons_zero]
  intro w2 hC
  go_wp2
  first | go_end0 | ((try simp only [Exit.inBlock, Exit.then]); refine bodyPost_ret (results_none rfl _ _ _) rfl ?_)
  exact ⟨rfl, hC⟩
end Go.Proofs.YtbjcdpmhmebjnaaGreat
/- What AddImm does to a step, flags and all: contracts. -/
namespace Go.Proofs.YtbjcdpmhmebjnaaGreat
open Go.RowKit
set_option linter.unusedVariables false

def withImmV (i : Ins) (c : Cor) (v : Int) : Cor := bif i.flags then setXV c i.rd v else pregV c i.rd v
set_option maxHeartbeats 1000000 in
theorem setWithImm_c (g : Nat) (i : Ins) (c : Cor) (k : Gt) (e : Int) (w : World) (h : w.heap[g]? = some (.cells (Stp.cells ⟨i, c, k, e⟩) 58)) (v : Int) : Calls Tryz.prog 193 #[.pointer (some ⟨g, 0, none⟩), .int .u64 v] w fun e2 w' => e2 = .returned (.tuple #[]) ∧ w'.heap[g]? = some (.cells (Stp.cells ⟨i, withImmV i c v, k, e⟩) 58) ∧ But g w w' := by
  cases hf : i.flags
  · refine (setWithImm_no g ⟨i, c, k, e⟩ v w h hf).mono ?_
    rintro e2 w2 ⟨rfl, hs, hB⟩
    refine ⟨rfl, ?_, hB⟩
    unfold withImmV; rw [hf]; exact hs
  · unfold withImmV; rw [hf]
    have c12 := at_i h 12 (.bool i.flags) (by decide) rfl
    rw [hf] at c12
    have c2 := at_i h 2 (.int .i64 i.rd) (by decide) rfl
    go_enter Tryz.func193, Tryz.ntmps193
    go_wp2_with (go_at_call 196; refine (setX_c g ⟨i, c, k, e⟩ _ _ _ h).mono ?_; rintro e w1 ⟨rfl, hs, hB⟩; dsimp only)
    first | go_end0 | ((try simp only [Exit.inBlock, Exit.then]); refine bodyPost_ret (results_none rfl _ _ _) rfl ?_)
    exact ⟨rfl, hs, hB⟩
def pickB (c d f : Cor) : Nat → Cor
  | 0 => c
  | 1 => c
  | 2 => d
  | _ => f
set_option maxRecDepth 4000 in
set_option maxHeartbeats 2000000 in
theorem stAddImm_A (g : Nat) (i : Ins) (c : Cor) (k : Gt) (e : Int) (w : World) (h : w.heap[g]? = some (.cells (Stp.cells ⟨i, c, k, e⟩) 58)) (hm : i.minus = false) (h0 : 0 ≤ i.amount) (h63 : i.amount ≤ 63) (X m Z V : Int) (hX : spX c i.rn = X) (hU : Hid (U64 X)) (hM : i.imm % 18446744073709551616 = m) (hZ : IntKind.u64.wrap (m * 2 ^ i.amount.toNat) = Z) (hb : Hid (U64 Z)) (D : Cor) (hV : sumV X Z false = V) (hD : setfV i c (addF X Z false) = D) : Calls Tryz.prog 126 #[.pointer (some ⟨g, 0, none⟩)] w fun e2 w' => e2 = .returned (.tuple #[]) ∧ w'.heap[g]? = some (.cells (Stp.cells ⟨i, withImmV i D V, k, e⟩) 58) ∧ But g w w' := by
  go_enter Tryz.func126, Tryz.ntmps126
  refine Chn.wp_region_chain (Ph g i (pickB c D (withImmV i D V)) k e w) [8, 21, 22] [(.pointer (some ⟨g, 0, none⟩)), (.pointer (some ⟨g, 0, none⟩)), (.pointer (some ⟨g, 0, none⟩)), (.pointer (some ⟨g, 0, none⟩)), (.pointer (some ⟨g, 0, none⟩)), (.pointer (some ⟨g, 0, none⟩)), (.pointer (some ⟨g, 3, none⟩)), (.int .i64 i.rn), (.int .u64 X), (.pointer (some ⟨g, 0, none⟩)), (.pointer (some ⟨g, 0, none⟩)), (.pointer (some ⟨g, 0, none⟩)), (.pointer (some ⟨g, 6, none⟩)), (.int .i64 i.imm), (.int .u64 m), (.pointer (some ⟨g, 0, none⟩)), (.pointer (some ⟨g, 0, none⟩)), (.pointer (some ⟨g, 0, none⟩)), (.pointer (some ⟨g, 8, none⟩)), (.int .i64 i.amount), (.int .u64 Z), (.int .u64 V), (.tuple #[])] (by kernel_rfl) (by kernel_rfl) (by kernel_rfl) (by kernel_rfl) (ph_start h) ?_
  refine ⟨fun j w1 hC => by exact Chn.upon_pure hC (fun F hF => by (go_simp <;> exact hF)), ?_⟩
  simp only [Act.put, List.setIfInBounds_toArray, List.set_cons_succ, List.set_cons_zero]
  refine ⟨fun j w1 hC => by exact Chn.upon_pure hC (fun F hF => by (go_simp <;> exact hF)), ?_⟩
  simp only [Act.put, List.setIfInBounds_toArray, List.set_cons_succ, List.set_cons_zero]
  refine ⟨fun j w1 hC => by exact Chn.upon_pure hC (fun F hF => by (go_simp <;> exact hF)), ?_⟩
  simp only [Act.put, List.setIfInBounds_toArray, List.set_cons_succ, List.set_cons_zero]
  refine ⟨fun j w1 hC => by exact Chn.upon_pure hC (fun F hF => by (go_simp <;> exact hF)), ?_⟩
  simp only [Act.put, List.setIfInBounds_toArray, List.set_cons_succ, List.set_cons_zero]
  refine ⟨fun j w1 hC => by exact Chn.upon_pure hC (fun F hF => by (go_simp <;> exact hF)), ?_⟩
  simp only [Act.put, List.setIfInBounds_toArray, List.set_cons_succ, List.set_cons_zero]
  refine ⟨fun j w1 hC => by exact Chn.upon_pure hC (fun F hF => by (go_simp <;> exact hF)), ?_⟩
  simp only [Act.put, List.setIfInBounds_toArray, List.set_cons_succ, List.set_cons_zero]
  refine ⟨fun j w1 hC => by exact Chn.upon_pure hC (fun F hF => by (go_simp <;> exact hF)), ?_⟩
  simp only [Act.put, List.setIfInBounds_toArray, List.set_cons_succ, List.set_cons_zero]
  refine ⟨fun j w1 hC => by have hq := at_i hC.1 3 (.int .i64 i.rn) (by decide) rfl; exact Chn.upon_pure hC (fun F hF => by (go_simp <;> exact hF)), ?_⟩
  simp only [Act.put, List.setIfInBounds_toArray, List.set_cons_succ, List.set_cons_zero]
  refine ⟨fun w1 hC => by exact Chn.upon_call (xOrSP_c g ⟨i, c, k, e⟩ i.rn w1 hC.1) (fun e2 w2 hh => ⟨by rw [hh.1]; show _ = Ending.returned (.int .u64 X); rw [← hX], hC.same rfl hh.2⟩) (fun F hF => by (go_simp <;> exact hF)), ?_⟩
  simp only [Act.put, List.setIfInBounds_toArray, List.set_cons_succ, List.set_cons_zero]
  refine ⟨fun j w1 hC => by exact Chn.upon_pure hC (fun F hF => by (go_simp <;> exact hF)), ?_⟩
  simp only [Act.put, List.setIfInBounds_toArray, List.set_cons_succ, List.set_cons_zero]
  refine ⟨fun j w1 hC => by exact Chn.upon_pure hC (fun F hF => by (go_simp <;> exact hF)), ?_⟩
  simp only [Act.put, List.setIfInBounds_toArray, List.set_cons_succ, List.set_cons_zero]
  refine ⟨fun j w1 hC => by exact Chn.upon_pure hC (fun F hF => by (go_simp <;> exact hF)), ?_⟩
  simp only [Act.put, List.setIfInBounds_toArray, List.set_cons_succ, List.set_cons_zero]
  refine ⟨fun j w1 hC => by exact Chn.upon_pure hC (fun F hF => by (go_simp <;> exact hF)), ?_⟩
  simp only [Act.put, List.setIfInBounds_toArray, List.set_cons_succ, List.set_cons_zero]
  refine ⟨fun j w1 hC => by have hq := at_i hC.1 6 (.int .i64 i.imm) (by decide) rfl; exact Chn.upon_pure hC (fun F hF => by (go_simp <;> exact hF)), ?_⟩
  simp only [Act.put, List.setIfInBounds_toArray, List.set_cons_succ, List.set_cons_zero]
  refine ⟨fun j w1 hC => by exact Chn.upon_int hC (IntKind.u64.wrap i.imm) (by rw [wrapU]; exact hM) (fun F hF => by (go_simp <;> exact hF)), ?_⟩
  simp only [Act.put, List.setIfInBounds_toArray, List.set_cons_succ, List.set_cons_zero]
  refine ⟨fun j w1 hC => by exact Chn.upon_pure hC (fun F hF => by (go_simp <;> exact hF)), ?_⟩
  simp only [Act.put, List.setIfInBounds_toArray, List.set_cons_succ, List.set_cons_zero]
  refine ⟨fun j w1 hC => by exact Chn.upon_pure hC (fun F hF => by (go_simp <;> exact hF)), ?_⟩
  simp only [Act.put, List.setIfInBounds_toArray, List.set_cons_succ, List.set_cons_zero]
  refine ⟨fun j w1 hC => by exact Chn.upon_pure hC (fun F hF => by (go_simp <;> exact hF)), ?_⟩
  simp only [Act.put, List.setIfInBounds_toArray, List.set_cons_succ, List.set_cons_zero]
  refine ⟨fun j w1 hC => by exact Chn.upon_pure hC (fun F hF => by (go_simp <;> exact hF)), ?_⟩
  simp only [Act.put, List.setIfInBounds_toArray, List.set_cons_succ, List.set_cons_zero]
  refine ⟨fun j w1 hC => by have hq := at_i hC.1 8 (.int .i64 i.amount) (by decide) rfl; exact Chn.upon_pure hC (fun F hF => by (go_simp <;> exact hF)), ?_⟩
  simp only [Act.put, List.setIfInBounds_toArray, List.set_cons_succ, List.set_cons_zero]
  refine ⟨fun j w1 hC => by exact Chn.upon_pure hC (fun F hF => by (go_simp <;> exact hF)), ?_⟩
  simp only [Act.put, List.setIfInBounds_toArray, List.set_cons_succ, List.set_cons_zero]
  refine ⟨fun w1 hC => by exact Chn.upon_call (stSum_A g i c k e w1 hC.1 hm X Z V hU hb D hV hD) (fun e2 w2 hh => ⟨hh.1, hC.next hh.2.1 hh.2.2⟩) (fun F hF => by (go_simp <;> exact hF)), ?_⟩
  simp only [Act.put, List.setIfInBounds_toArray, List.set_cons_succ, List.set_cons_zero]
  refine ⟨fun w1 hC => by exact Chn.upon_call (setWithImm_c g i D k e w1 hC.1 V) (fun e2 w2 hh => ⟨hh.1, hC.next hh.2.1 hh.2.2⟩) (fun F hF => by (go_simp <;> exact hF)), ?_⟩
  simp only [Act.put, List.setIfInBounds_toArray, List.set_cons_succ, List.set_cons_zero]
  intro w2 hC
  go_wp2
  first | go_end0 | ((try simp only [Exit.inBlock, Exit.then]); refine bodyPost_ret (results_none rfl _ _ _) rfl ?_)
  exact ⟨rfl, hC⟩
set_option maxRecDepth 4000 in
set_option maxHeartbeats 2000000 in
theorem stAddImm_S (g : Nat) (i : Ins) (c : Cor) (k : Gt) (e : Int) (w : World) (h : w.heap[g]? = some (.cells (Stp.cells ⟨i, c, k, e⟩) 58)) (hm : i.minus = true) (h0 : 0 ≤ i.amount) (h63 : i.amount ≤ 63) (X m Z b2 V : Int) (hX : spX c i.rn = X) (hU : Hid (U64 X)) (hM : i.imm % 18446744073709551616 = m) (hZ : IntKind.u64.wrap (m * 2 ^ i.amount.toNat) = Z) (hb : Hid (U64 b2)) (hb2 : bits .xor .u64 IntKind.u64.max Z = b2) (D : Cor) (hV : sumV X b2 true = V) (hD : setfV i c (addF X b2 true) = D) : Calls Tryz.prog 126 #[.pointer (some ⟨g, 0, none⟩)] w fun e2 w' => e2 = .returned (.tuple #[]) ∧ w'.heap[g]? = some (.cells (Stp.cells ⟨i, withImmV i D V, k, e⟩) 58) ∧ But g w w' := by
  go_enter Tryz.func126, Tryz.ntmps126
  refine Chn.wp_region_chain (Ph g i (pickB c D (withImmV i D V)) k e w) [8, 21, 22] [(.pointer (some ⟨g, 0, none⟩)), (.pointer (some ⟨g, 0, none⟩)), (.pointer (some ⟨g, 0, none⟩)), (.pointer (some ⟨g, 0, none⟩)), (.pointer (some ⟨g, 0, none⟩)), (.pointer (some ⟨g, 0, none⟩)), (.pointer (some ⟨g, 3, none⟩)), (.int .i64 i.rn), (.int .u64 X), (.pointer (some ⟨g, 0, none⟩)), (.pointer (some ⟨g, 0, none⟩)), (.pointer (some ⟨g, 0, none⟩)), (.pointer (some ⟨g, 6, none⟩)), (.int .i64 i.imm), (.int .u64 m), (.pointer (some ⟨g, 0, none⟩)), (.pointer (some ⟨g, 0, none⟩)), (.pointer (some ⟨g, 0, none⟩)), (.pointer (some ⟨g, 8, none⟩)), (.int .i64 i.amount), (.int .u64 Z), (.int .u64 V), (.tuple #[])] (by kernel_rfl) (by kernel_rfl) (by kernel_rfl) (by kernel_rfl) (ph_start h) ?_
  refine ⟨fun j w1 hC => by exact Chn.upon_pure hC (fun F hF => by (go_simp <;> exact hF)), ?_⟩
  simp only [Act.put, List.setIfInBounds_toArray, List.set_cons_succ, List.set_cons_zero]
  refine ⟨fun j w1 hC => by exact Chn.upon_pure hC (fun F hF => by (go_simp <;> exact hF)), ?_⟩
  simp only [Act.put, List.setIfInBounds_toArray, List.set_cons_succ, List.set_cons_zero]
  refine ⟨fun j w1 hC => by exact Chn.upon_pure hC (fun F hF => by (go_simp <;> exact hF)), ?_⟩
  simp only [Act.put, List.setIfInBounds_toArray, List.set_cons_succ, List.set_cons_zero]
  refine ⟨fun j w1 hC => by exact Chn.upon_pure hC (fun F hF => by (go_simp <;> exact hF)), ?_⟩
  simp only [Act.put, List.setIfInBounds_toArray, List.set_cons_succ, List.set_cons_zero]
  refine ⟨fun j w1 hC => by exact Chn.upon_pure hC (fun F hF => by (go_simp <;> exact hF)), ?_⟩
  simp only [Act.put, List.setIfInBounds_toArray, List.set_cons_succ, List.set_cons_zero]
  refine ⟨fun j w1 hC => by exact Chn.upon_pure hC (fun F hF => by (go_simp <;> exact hF)), ?_⟩
  simp only [Act.put, List.setIfInBounds_toArray, List.set_cons_succ, List.set_cons_zero]
  refine ⟨fun j w1 hC => by exact Chn.upon_pure hC (fun F hF => by (go_simp <;> exact hF)), ?_⟩
  simp only [Act.put, List.setIfInBounds_toArray, List.set_cons_succ, List.set_cons_zero]
  refine ⟨fun j w1 hC => by have hq := at_i hC.1 3 (.int .i64 i.rn) (by decide) rfl; exact Chn.upon_pure hC (fun F hF => by (go_simp <;> exact hF)), ?_⟩
  simp only [Act.put, List.setIfInBounds_toArray, List.set_cons_succ, List.set_cons_zero]
  refine ⟨fun w1 hC => by exact Chn.upon_call (xOrSP_c g ⟨i, c, k, e⟩ i.rn w1 hC.1) (fun e2 w2 hh => ⟨by rw [hh.1]; show _ = Ending.returned (.int .u64 X); rw [← hX], hC.same rfl hh.2⟩) (fun F hF => by (go_simp <;> exact hF)), ?_⟩
  simp only [Act.put, List.setIfInBounds_toArray, List.set_cons_succ, List.set_cons_zero]
  refine ⟨fun j w1 hC => by exact Chn.upon_pure hC (fun F hF => by (go_simp <;> exact hF)), ?_⟩
  simp only [Act.put, List.setIfInBounds_toArray, List.set_cons_succ, List.set_cons_zero]
  refine ⟨fun j w1 hC => by exact Chn.upon_pure hC (fun F hF => by (go_simp <;> exact hF)), ?_⟩
  simp only [Act.put, List.setIfInBounds_toArray, List.set_cons_succ, List.set_cons_zero]
  refine ⟨fun j w1 hC => by exact Chn.upon_pure hC (fun F hF => by (go_simp <;> exact hF)), ?_⟩
  simp only [Act.put, List.setIfInBounds_toArray, List.set_cons_succ, List.set_cons_zero]
  refine ⟨fun j w1 hC => by exact Chn.upon_pure hC (fun F hF => by (go_simp <;> exact hF)), ?_⟩
  simp only [Act.put, List.setIfInBounds_toArray, List.set_cons_succ, List.set_cons_zero]
  refine ⟨fun j w1 hC => by have hq := at_i hC.1 6 (.int .i64 i.imm) (by decide) rfl; exact Chn.upon_pure hC (fun F hF => by (go_simp <;> exact hF)), ?_⟩
  simp only [Act.put, List.setIfInBounds_toArray, List.set_cons_succ, List.set_cons_zero]
  refine ⟨fun j w1 hC => by exact Chn.upon_int hC (IntKind.u64.wrap i.imm) (by rw [wrapU]; exact hM) (fun F hF => by (go_simp <;> exact hF)), ?_⟩
  simp only [Act.put, List.setIfInBounds_toArray, List.set_cons_succ, List.set_cons_zero]
  refine ⟨fun j w1 hC => by exact Chn.upon_pure hC (fun F hF => by (go_simp <;> exact hF)), ?_⟩
  simp only [Act.put, List.setIfInBounds_toArray, List.set_cons_succ, List.set_cons_zero]
  refine ⟨fun j w1 hC => by exact Chn.upon_pure hC (fun F hF => by (go_simp <;> exact hF)), ?_⟩
  simp only [Act.put, List.setIfInBounds_toArray, List.set_cons_succ, List.set_cons_zero]
  refine ⟨fun j w1 hC => by exact Chn.upon_pure hC (fun F hF => by (go_simp <;> exact hF)), ?_⟩
  simp only [Act.put, List.setIfInBounds_toArray, List.set_cons_succ, List.set_cons_zero]
  refine ⟨fun j w1 hC => by exact Chn.upon_pure hC (fun F hF => by (go_simp <;> exact hF)), ?_⟩
  simp only [Act.put, List.setIfInBounds_toArray, List.set_cons_succ, List.set_cons_zero]
  refine ⟨fun j w1 hC => by have hq := at_i hC.1 8 (.int .i64 i.amount) (by decide) rfl; exact Chn.upon_pure hC (fun F hF => by (go_simp <;> exact hF)), ?_⟩
  simp only [Act.put, List.setIfInBounds_toArray, List.set_cons_succ, List.set_cons_zero]
  refine ⟨fun j w1 hC => by exact Chn.upon_pure hC (fun F hF => by (go_simp <;> exact hF)), ?_⟩
  simp only [Act.put, List.setIfInBounds_toArray, List.set_cons_succ, List.set_cons_zero]
  refine ⟨fun w1 hC => by exact Chn.upon_call (stSum_S g i c k e w1 hC.1 hm X Z b2 V hU hb hb2 D hV hD) (fun e2 w2 hh => ⟨hh.1, hC.next hh.2.1 hh.2.2⟩) (fun F hF => by (go_simp <;> exact hF)), ?_⟩
  simp only [Act.put, List.setIfInBounds_toArray, List.set_cons_succ, List.set_cons_zero]
  refine ⟨fun w1 hC => by exact Chn.upon_call (setWithImm_c g i D k e w1 hC.1 V) (fun e2 w2 hh => ⟨hh.1, hC.next hh.2.1 hh.2.2⟩) (fun F hF => by (go_simp <;> exact hF)), ?_⟩
  simp only [Act.put, List.setIfInBounds_toArray, List.set_cons_succ, List.set_cons_zero]
  intro w2 hC
  go_wp2
  first | go_end0 | ((try simp only [Exit.inBlock, Exit.then]); refine bodyPost_ret (results_none rfl _ _ _) rfl ?_)
  exact ⟨rfl, hC⟩
end Go.Proofs.YtbjcdpmhmebjnaaGreat
