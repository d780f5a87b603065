/- What Csel does to a step where its condition fails: contracts. -/
import Derived.Test.YtbjcdpmhmebjnaaGreatD20
import Derived.Test.YtbjcdpmhmebjnaaGreatD13
import Derived.Test.YtbjcdpmhmebjnaaGreatD31
import Derived.Test.YtbjcdpmhmebjnaaGreatD05
namespace Go.Proofs.YtbjcdpmhmebjnaaGreat
open Go.RowKit
set_option linter.unusedVariables false

def four4 (X : Int) : Array Value := #[.int .u64 X, .int .u64 (IntKind.u64.wrap (X + 1)), .int .u64 (bits .xor .u64 IntKind.u64.max X), .int .u64 (IntKind.u64.wrap (-X))]
theorem four4_info (X : Int) : (Tryz.prog.info? 154).map (·.size) = some (four4 X).size := by show _ = some 4; kernel_rfl
theorem four4_one (X : Int) : (four4 X).all (·.oneCell') = true := by simp [four4, Value.oneCell']
set_option maxRecDepth 4000 in
set_option maxHeartbeats 2000000 in
theorem stChoose_N0 (g : Nat) (i : Ins) (c : Cor) (k : Gt) (e : Int) (w : World) (h : w.heap[g]? = some (.cells (Stp.cells ⟨i, c, k, e⟩) 58)) (hB : holdsV c i.cond = false) (hs : i.sub = 0) (X : Int) (hX : xV c i.rm = X) : Calls Tryz.prog 135 #[.pointer (some ⟨g, 0, none⟩)] w fun e2 w' => e2 = .returned (.tuple #[]) ∧ w'.heap[g]? = some (.cells (Stp.cells ⟨i, setXV c i.rd X, k, e⟩) 58) ∧ But g w w' := by
  go_enter Tryz.func135, Tryz.ntmps135
  go_upto_region 2 with (go_at_call 203; refine (stHolds_c g i c k e _ h false hB).mono ?_; rintro e2 w1 ⟨rfl, hs1, hB1⟩; dsimp only)
  have c4 := at_i hs1 4 (.int .i64 i.rm) (by decide) rfl
  go_upto_region 3 with (go_at_call 184; refine (sx_c g ⟨i, c, k, e⟩ i.rm _ hs1).mono ?_; rintro e2 w3 ⟨rfl, hB3⟩; have hs3 := keep_row hs1 hB3; rw [show vU (xV (Stp.mk i c k e).c i.rm) = .int .u64 X from by rw [← hX]]; dsimp only)
  have H := has_none w3
  go_upto_region 4 with (first | ((with_reducible refine wpList_store_new H rfl 154 _ _ rfl (four4 X) rfl rfl (four4_info X) ?_ (four4_one X) ?_); (focus rfl); intro w4 H1; try simp only [Act.put]) | (rw [if_neg (by decide : ¬ IntKind.u64.signed = true)]))
  have h4 := keep_row hs3 H1.below
  have hb := H1.get List.mem_cons_self
  have hn : w3.heap.size ≠ g := by have := (Array.getElem?_eq_some_iff.1 hs3).1; omega
  have hB4 := H1.below
  clear H H1
  generalize w3.heap.size = b at hb hn ⊢
  refine Chn.wp_region_chain (PhR g i (pick1 c (setXV c i.rd X)) b (four4 X) 154 k e w4) [13] [(.pointer (some ⟨g, 0, none⟩)), (.pointer (some ⟨g, 0, none⟩)), (.pointer (some ⟨g, 0, none⟩)), (.pointer (some ⟨g, 0, none⟩)), (.pointer (some ⟨g, 2, none⟩)), (.int .i64 i.rd), (.pointer (some ⟨g, 0, none⟩)), (.pointer (some ⟨g, 0, none⟩)), (.pointer (some ⟨g, 0, none⟩)), (.pointer (some ⟨g, 1, none⟩)), (.int .i64 0), (.pointer (some ⟨b, 0, none⟩)), (.int .u64 X), (.tuple #[])] (by kernel_rfl) (by kernel_rfl) (by kernel_rfl) (by kernel_rfl) (⟨ph_start h4, hb⟩) ?_
  refine ⟨fun j w1 hC => by exact Chn.upon_pure hC (fun F hF => by (go_simp <;> exact hF)), ?_⟩
  simp only [Act.put, List.setIfInBounds_toArray, List.set_cons_succ, List.set_cons_zero]
  refine ⟨fun j w1 hC => by exact Chn.upon_pure hC (fun F hF => by (go_simp <;> exact hF)), ?_⟩
  simp only [Act.put, List.setIfInBounds_toArray, List.set_cons_succ, List.set_cons_zero]
  refine ⟨fun j w1 hC => by exact Chn.upon_pure hC (fun F hF => by (go_simp <;> exact hF)), ?_⟩
  simp only [Act.put, List.setIfInBounds_toArray, List.set_cons_succ, List.set_cons_zero]
  refine ⟨fun j w1 hC => by exact Chn.upon_pure hC (fun F hF => by (go_simp <;> exact hF)), ?_⟩
  simp only [Act.put, List.setIfInBounds_toArray, List.set_cons_succ, List.set_cons_zero]
  refine ⟨fun j w1 hC => by exact Chn.upon_pure hC (fun F hF => by (go_simp <;> exact hF)), ?_⟩
  simp only [Act.put, List.setIfInBounds_toArray, List.set_cons_succ, List.set_cons_zero]
  refine ⟨fun j w1 hC => by have hq := at_i hC.1.1 2 (.int .i64 i.rd) (by decide) rfl; exact Chn.upon_pure hC (fun F hF => by (go_simp <;> exact hF)), ?_⟩
  simp only [Act.put, List.setIfInBounds_toArray, List.set_cons_succ, List.set_cons_zero]
  refine ⟨fun j w1 hC => by exact Chn.upon_pure hC (fun F hF => by (go_simp <;> exact hF)), ?_⟩
  simp only [Act.put, List.setIfInBounds_toArray, List.set_cons_succ, List.set_cons_zero]
  refine ⟨fun j w1 hC => by exact Chn.upon_pure hC (fun F hF => by (go_simp <;> exact hF)), ?_⟩
  simp only [Act.put, List.setIfInBounds_toArray, List.set_cons_succ, List.set_cons_zero]
  refine ⟨fun j w1 hC => by exact Chn.upon_pure hC (fun F hF => by (go_simp <;> exact hF)), ?_⟩
  simp only [Act.put, List.setIfInBounds_toArray, List.set_cons_succ, List.set_cons_zero]
  refine ⟨fun j w1 hC => by exact Chn.upon_pure hC (fun F hF => by (go_simp <;> exact hF)), ?_⟩
  simp only [Act.put, List.setIfInBounds_toArray, List.set_cons_succ, List.set_cons_zero]
  refine ⟨fun j w1 hC => by have hq := (hs ▸ at_i hC.1.1 1 (.int .i64 i.sub) (by decide) rfl : w1.cell? ⟨g, 1, none⟩ = some (.int .i64 0)); exact Chn.upon_pure hC (fun F hF => by (go_simp <;> exact hF)), ?_⟩
  simp only [Act.put, List.setIfInBounds_toArray, List.set_cons_succ, List.set_cons_zero]
  refine ⟨fun j w1 hC => by exact Chn.upon_pure hC (fun F hF => by (go_simp <;> exact hF)), ?_⟩
  simp only [Act.put, List.setIfInBounds_toArray, List.set_cons_succ, List.set_cons_zero]
  refine ⟨fun j w1 hC => by have hq := cell_at hC.2 0 (.int .u64 X) rfl; exact Chn.upon_pure hC (fun F hF => by (go_simp <;> exact hF)), ?_⟩
  simp only [Act.put, List.setIfInBounds_toArray, List.set_cons_succ, List.set_cons_zero]
  refine ⟨fun w1 hC => by exact Chn.upon_call (setX_c g ⟨i, c, k, e⟩ i.rd X w1 hC.1.1) (fun e2 w2 hh => ⟨hh.1, hC.next hn hh.2.1 hh.2.2⟩) (fun F hF => by (go_simp <;> exact hF)), ?_⟩
  simp only [Act.put, List.setIfInBounds_toArray, List.set_cons_succ, List.set_cons_zero]
  intro w5 hC
  go_wp2
  first | go_end0 | ((try simp only [Exit.inBlock, Exit.then]); refine bodyPost_ret (results_none rfl _ _ _) rfl ?_)
  exact ⟨rfl, hC.1.1, (hB1.trans ((but_below hB3).trans (but_below hB4))).trans hC.1.2⟩
set_option maxRecDepth 4000 in
set_option maxHeartbeats 2000000 in
theorem stChoose_N1 (g : Nat) (i : Ins) (c : Cor) (k : Gt) (e : Int) (w : World) (h : w.heap[g]? = some (.cells (Stp.cells ⟨i, c, k, e⟩) 58)) (hB : holdsV c i.cond = false) (hs : i.sub = 1) (X : Int) (hX : xV c i.rm = X) : Calls Tryz.prog 135 #[.pointer (some ⟨g, 0, none⟩)] w fun e2 w' => e2 = .returned (.tuple #[]) ∧ w'.heap[g]? = some (.cells (Stp.cells ⟨i, setXV c i.rd (IntKind.u64.wrap (X + 1)), k, e⟩) 58) ∧ But g w w' := by
  go_enter Tryz.func135, Tryz.ntmps135
  go_upto_region 2 with (go_at_call 203; refine (stHolds_c g i c k e _ h false hB).mono ?_; rintro e2 w1 ⟨rfl, hs1, hB1⟩; dsimp only)
  have c4 := at_i hs1 4 (.int .i64 i.rm) (by decide) rfl
  go_upto_region 3 with (go_at_call 184; refine (sx_c g ⟨i, c, k, e⟩ i.rm _ hs1).mono ?_; rintro e2 w3 ⟨rfl, hB3⟩; have hs3 := keep_row hs1 hB3; rw [show vU (xV (Stp.mk i c k e).c i.rm) = .int .u64 X from by rw [← hX]]; dsimp only)
  have H := has_none w3
  go_upto_region 4 with (first | ((with_reducible refine wpList_store_new H rfl 154 _ _ rfl (four4 X) rfl rfl (four4_info X) ?_ (four4_one X) ?_); (focus rfl); intro w4 H1; try simp only [Act.put]) | (rw [if_neg (by decide : ¬ IntKind.u64.signed = true)]))
  have h4 := keep_row hs3 H1.below
  have hb := H1.get List.mem_cons_self
  have hn : w3.heap.size ≠ g := by have := (Array.getElem?_eq_some_iff.1 hs3).1; omega
  have hB4 := H1.below
  clear H H1
  generalize w3.heap.size = b at hb hn ⊢
  refine Chn.wp_region_chain (PhR g i (pick1 c (setXV c i.rd (IntKind.u64.wrap (X + 1)))) b (four4 X) 154 k e w4) [13] [(.pointer (some ⟨g, 0, none⟩)), (.pointer (some ⟨g, 0, none⟩)), (.pointer (some ⟨g, 0, none⟩)), (.pointer (some ⟨g, 0, none⟩)), (.pointer (some ⟨g, 2, none⟩)), (.int .i64 i.rd), (.pointer (some ⟨g, 0, none⟩)), (.pointer (some ⟨g, 0, none⟩)), (.pointer (some ⟨g, 0, none⟩)), (.pointer (some ⟨g, 1, none⟩)), (.int .i64 1), (.pointer (some ⟨b, 1, none⟩)), (.int .u64 (IntKind.u64.wrap (X + 1))), (.tuple #[])] (by kernel_rfl) (by kernel_rfl) (by kernel_rfl) (by kernel_rfl) (⟨ph_start h4, hb⟩) ?_
  refine ⟨fun j w1 hC => by exact Chn.upon_pure hC (fun F hF => by (go_simp <;> exact hF)), ?_⟩
  simp only [Act.put, List.setIfInBounds_toArray, List.set_cons_succ, List.set_cons_zero]
  refine ⟨fun j w1 hC => by exact Chn.upon_pure hC (fun F hF => by (go_simp <;> exact hF)), ?_⟩
  simp only [Act.put, List.setIfInBounds_toArray, List.set_cons_succ, List.set_cons_zero]
  refine ⟨fun j w1 hC => by exact Chn.upon_pure hC (fun F hF => by (go_simp <;> exact hF)), ?_⟩
  simp only [Act.put, List.setIfInBounds_toArray, List.set_cons_succ, List.set_cons_zero]
  refine ⟨fun j w1 hC => by exact Chn.upon_pure hC (fun F hF => by (go_simp <;> exact hF)), ?_⟩
  simp only [Act.put, List.setIfInBounds_toArray, List.set_cons_succ, List.set_cons_zero]
  refine ⟨fun j w1 hC => by exact Chn.upon_pure hC (fun F hF => by (go_simp <;> exact hF)), ?_⟩
  simp only [Act.put, List.setIfInBounds_toArray, List.set_cons_succ, List.set_cons_zero]
  refine ⟨fun j w1 hC => by have hq := at_i hC.1.1 2 (.int .i64 i.rd) (by decide) rfl; exact Chn.upon_pure hC (fun F hF => by (go_simp <;> exact hF)), ?_⟩
  simp only [Act.put, List.setIfInBounds_toArray, List.set_cons_succ, List.set_cons_zero]
  refine ⟨fun j w1 hC => by exact Chn.upon_pure hC (fun F hF => by (go_simp <;> exact hF)), ?_⟩
  simp only [Act.put, List.setIfInBounds_toArray, List.set_cons_succ, List.set_cons_zero]
  refine ⟨fun j w1 hC => by exact Chn.upon_pure hC (fun F hF => by (go_simp <;> exact hF)), ?_⟩
  simp only [Act.put, List.setIfInBounds_toArray, List.set_cons_succ, List.set_cons_zero]
  refine ⟨fun j w1 hC => by exact Chn.upon_pure hC (fun F hF => by (go_simp <;> exact hF)), ?_⟩
  simp only [Act.put, List.setIfInBounds_toArray, List.set_cons_succ, List.set_cons_zero]
  refine ⟨fun j w1 hC => by exact Chn.upon_pure hC (fun F hF => by (go_simp <;> exact hF)), ?_⟩
  simp only [Act.put, List.setIfInBounds_toArray, List.set_cons_succ, List.set_cons_zero]
  refine ⟨fun j w1 hC => by have hq := (hs ▸ at_i hC.1.1 1 (.int .i64 i.sub) (by decide) rfl : w1.cell? ⟨g, 1, none⟩ = some (.int .i64 1)); exact Chn.upon_pure hC (fun F hF => by (go_simp <;> exact hF)), ?_⟩
  simp only [Act.put, List.setIfInBounds_toArray, List.set_cons_succ, List.set_cons_zero]
  refine ⟨fun j w1 hC => by exact Chn.upon_pure hC (fun F hF => by (go_simp <;> exact hF)), ?_⟩
  simp only [Act.put, List.setIfInBounds_toArray, List.set_cons_succ, List.set_cons_zero]
  refine ⟨fun j w1 hC => by have hq := cell_at hC.2 1 (.int .u64 (IntKind.u64.wrap (X + 1))) rfl; exact Chn.upon_pure hC (fun F hF => by (go_simp <;> exact hF)), ?_⟩
  simp only [Act.put, List.setIfInBounds_toArray, List.set_cons_succ, List.set_cons_zero]
  refine ⟨fun w1 hC => by exact Chn.upon_call (setX_c g ⟨i, c, k, e⟩ i.rd (IntKind.u64.wrap (X + 1)) w1 hC.1.1) (fun e2 w2 hh => ⟨hh.1, hC.next hn hh.2.1 hh.2.2⟩) (fun F hF => by (go_simp <;> exact hF)), ?_⟩
  simp only [Act.put, List.setIfInBounds_toArray, List.set_cons_succ, List.set_cons_zero]
  intro w5 hC
  go_wp2
  first | go_end0 | ((try simp only [Exit.inBlock, Exit.then]); refine bodyPost_ret (results_none rfl _ _ _) rfl ?_)
  exact ⟨rfl, hC.1.1, (hB1.trans ((but_below hB3).trans (but_below hB4))).trans hC.1.2⟩
set_option maxRecDepth 4000 in
set_option maxHeartbeats 2000000 in
theorem stChoose_N2 (g : Nat) (i : Ins) (c : Cor) (k : Gt) (e : Int) (w : World) (h : w.heap[g]? = some (.cells (Stp.cells ⟨i, c, k, e⟩) 58)) (hB : holdsV c i.cond = false) (hs : i.sub = 2) (X : Int) (hX : xV c i.rm = X) : Calls Tryz.prog 135 #[.pointer (some ⟨g, 0, none⟩)] w fun e2 w' => e2 = .returned (.tuple #[]) ∧ w'.heap[g]? = some (.cells (Stp.cells ⟨i, setXV c i.rd (bits .xor .u64 IntKind.u64.max X), k, e⟩) 58) ∧ But g w w' := by
  go_enter Tryz.func135, Tryz.ntmps135
  go_upto_region 2 with (go_at_call 203; refine (stHolds_c g i c k e _ h false hB).mono ?_; rintro e2 w1 ⟨rfl, hs1, hB1⟩; dsimp only)
  have c4 := at_i hs1 4 (.int .i64 i.rm) (by decide) rfl
  go_upto_region 3 with (go_at_call 184; refine (sx_c g ⟨i, c, k, e⟩ i.rm _ hs1).mono ?_; rintro e2 w3 ⟨rfl, hB3⟩; have hs3 := keep_row hs1 hB3; rw [show vU (xV (Stp.mk i c k e).c i.rm) = .int .u64 X from by rw [← hX]]; dsimp only)
  have H := has_none w3
  go_upto_region 4 with (first | ((with_reducible refine wpList_store_new H rfl 154 _ _ rfl (four4 X) rfl rfl (four4_info X) ?_ (four4_one X) ?_); (focus rfl); intro w4 H1; try simp only [Act.put]) | (rw [if_neg (by decide : ¬ IntKind.u64.signed = true)]))
  have h4 := keep_row hs3 H1.below
  have hb := H1.get List.mem_cons_self
  have hn : w3.heap.size ≠ g := by have := (Array.getElem?_eq_some_iff.1 hs3).1; omega
  have hB4 := H1.below
  clear H H1
  generalize w3.heap.size = b at hb hn ⊢
  refine Chn.wp_region_chain (PhR g i (pick1 c (setXV c i.rd (bits .xor .u64 IntKind.u64.max X))) b (four4 X) 154 k e w4) [13] [(.pointer (some ⟨g, 0, none⟩)), (.pointer (some ⟨g, 0, none⟩)), (.pointer (some ⟨g, 0, none⟩)), (.pointer (some ⟨g, 0, none⟩)), (.pointer (some ⟨g, 2, none⟩)), (.int .i64 i.rd), (.pointer (some ⟨g, 0, none⟩)), (.pointer (some ⟨g, 0, none⟩)), (.pointer (some ⟨g, 0, none⟩)), (.pointer (some ⟨g, 1, none⟩)), (.int .i64 2), (.pointer (some ⟨b, 2, none⟩)), (.int .u64 (bits .xor .u64 IntKind.u64.max X)), (.tuple #[])] (by kernel_rfl) (by kernel_rfl) (by kernel_rfl) (by kernel_rfl) (⟨ph_start h4, hb⟩) ?_
  refine ⟨fun j w1 hC => by exact Chn.upon_pure hC (fun F hF => by (go_simp <;> exact hF)), ?_⟩
  simp only [Act.put, List.setIfInBounds_toArray, List.set_cons_succ, List.set_cons_zero]
  refine ⟨fun j w1 hC => by exact Chn.upon_pure hC (fun F hF => by (go_simp <;> exact hF)), ?_⟩
  simp only [Act.put, List.setIfInBounds_toArray, List.set_cons_succ, List.set_cons_zero]
  refine ⟨fun j w1 hC => by exact Chn.upon_pure hC (fun F hF => by (go_simp <;> exact hF)), ?_⟩
  simp only [Act.put, List.setIfInBounds_toArray, List.set_cons_succ, List.set_cons_zero]
  refine ⟨fun j w1 hC => by exact Chn.upon_pure hC (fun F hF => by (go_simp <;> exact hF)), ?_⟩
  simp only [Act.put, List.setIfInBounds_toArray, List.set_cons_succ, List.set_cons_zero]
  refine ⟨fun j w1 hC => by exact Chn.upon_pure hC (fun F hF => by (go_simp <;> exact hF)), ?_⟩
  simp only [Act.put, List.setIfInBounds_toArray, List.set_cons_succ, List.set_cons_zero]
  refine ⟨fun j w1 hC => by have hq := at_i hC.1.1 2 (.int .i64 i.rd) (by decide) rfl; exact Chn.upon_pure hC (fun F hF => by (go_simp <;> exact hF)), ?_⟩
  simp only [Act.put, List.setIfInBounds_toArray, List.set_cons_succ, List.set_cons_zero]
  refine ⟨fun j w1 hC => by exact Chn.upon_pure hC (fun F hF => by (go_simp <;> exact hF)), ?_⟩
  simp only [Act.put, List.setIfInBounds_toArray, List.set_cons_succ, List.set_cons_zero]
  refine ⟨fun j w1 hC => by exact Chn.upon_pure hC (fun F hF => by (go_simp <;> exact hF)), ?_⟩
  simp only [Act.put, List.setIfInBounds_toArray, List.set_cons_succ, List.set_cons_zero]
  refine ⟨fun j w1 hC => by exact Chn.upon_pure hC (fun F hF => by (go_simp <;> exact hF)), ?_⟩
  simp only [Act.put, List.setIfInBounds_toArray, List.set_cons_succ, List.set_cons_zero]
  refine ⟨fun j w1 hC => by exact Chn.upon_pure hC (fun F hF => by (go_simp <;> exact hF)), ?_⟩
  simp only [Act.put, List.setIfInBounds_toArray, List.set_cons_succ, List.set_cons_zero]
  refine ⟨fun j w1 hC => by have hq := (hs ▸ at_i hC.1.1 1 (.int .i64 i.sub) (by decide) rfl : w1.cell? ⟨g, 1, none⟩ = some (.int .i64 2)); exact Chn.upon_pure hC (fun F hF => by (go_simp <;> exact hF)), ?_⟩
  simp only [Act.put, List.setIfInBounds_toArray, List.set_cons_succ, List.set_cons_zero]
  refine ⟨fun j w1 hC => by exact Chn.upon_pure hC (fun F hF => by (go_simp <;> exact hF)), ?_⟩
  simp only [Act.put, List.setIfInBounds_toArray, List.set_cons_succ, List.set_cons_zero]
  refine ⟨fun j w1 hC => by have hq := cell_at hC.2 2 (.int .u64 (bits .xor .u64 IntKind.u64.max X)) rfl; exact Chn.upon_pure hC (fun F hF => by (go_simp <;> exact hF)), ?_⟩
  simp only [Act.put, List.setIfInBounds_toArray, List.set_cons_succ, List.set_cons_zero]
  refine ⟨fun w1 hC => by exact Chn.upon_call (setX_c g ⟨i, c, k, e⟩ i.rd (bits .xor .u64 IntKind.u64.max X) w1 hC.1.1) (fun e2 w2 hh => ⟨hh.1, hC.next hn hh.2.1 hh.2.2⟩) (fun F hF => by (go_simp <;> exact hF)), ?_⟩
  simp only [Act.put, List.setIfInBounds_toArray, List.set_cons_succ, List.set_cons_zero]
  intro w5 hC
  go_wp2
  first | go_end0 | ((try simp only [Exit.inBlock, Exit.then]); refine bodyPost_ret (results_none rfl _ _ _) rfl ?_)
  exact ⟨rfl, hC.1.1, (hB1.trans ((but_below hB3).trans (but_below hB4))).trans hC.1.2⟩
set_option maxRecDepth 4000 in
set_option maxHeartbeats 2000000 in
theorem stChoose_N3 (g : Nat) (i : Ins) (c : Cor) (k : Gt) (e : Int) (w : World) (h : w.heap[g]? = some (.cells (Stp.cells ⟨i, c, k, e⟩) 58)) (hB : holdsV c i.cond = false) (hs : i.sub = 3) (X : Int) (hX : xV c i.rm = X) : Calls Tryz.prog 135 #[.pointer (some ⟨g, 0, none⟩)] w fun e2 w' => e2 = .returned (.tuple #[]) ∧ w'.heap[g]? = some (.cells (Stp.cells ⟨i, setXV c i.rd (IntKind.u64.wrap (-X)), k, e⟩) 58) ∧ But g w w' := by
  go_enter Tryz.func135, Tryz.ntmps135
  go_upto_region 2 with (go_at_call 203; refine (stHolds_c g i c k e _ h false hB).mono ?_; rintro e2 w1 ⟨rfl, hs1, hB1⟩; dsimp only)
  have c4 := at_i hs1 4 (.int .i64 i.rm) (by decide) rfl
  go_upto_region 3 with (go_at_call 184; refine (sx_c g ⟨i, c, k, e⟩ i.rm _ hs1).mono ?_; rintro e2 w3 ⟨rfl, hB3⟩; have hs3 := keep_row hs1 hB3; rw [show vU (xV (Stp.mk i c k e).c i.rm) = .int .u64 X from by rw [← hX]]; dsimp only)
  have H := has_none w3
  go_upto_region 4 with (first | ((with_reducible refine wpList_store_new H rfl 154 _ _ rfl (four4 X) rfl rfl (four4_info X) ?_ (four4_one X) ?_); (focus rfl); intro w4 H1; try simp only [Act.put]) | (rw [if_neg (by decide : ¬ IntKind.u64.signed = true)]))
  have h4 := keep_row hs3 H1.below
  have hb := H1.get List.mem_cons_self
  have hn : w3.heap.size ≠ g := by have := (Array.getElem?_eq_some_iff.1 hs3).1; omega
  have hB4 := H1.below
  clear H H1
  generalize w3.heap.size = b at hb hn ⊢
  refine Chn.wp_region_chain (PhR g i (pick1 c (setXV c i.rd (IntKind.u64.wrap (-X)))) b (four4 X) 154 k e w4) [13] [(.pointer (some ⟨g, 0, none⟩)), (.pointer (some ⟨g, 0, none⟩)), (.pointer (some ⟨g, 0, none⟩)), (.pointer (some ⟨g, 0, none⟩)), (.pointer (some ⟨g, 2, none⟩)), (.int .i64 i.rd), (.pointer (some ⟨g, 0, none⟩)), (.pointer (some ⟨g, 0, none⟩)), (.pointer (some ⟨g, 0, none⟩)), (.pointer (some ⟨g, 1, none⟩)), (.int .i64 3), (.pointer (some ⟨b, 3, none⟩)), (.int .u64 (IntKind.u64.wrap (-X))), (.tuple #[])] (by kernel_rfl) (by kernel_rfl) (by kernel_rfl) (by kernel_rfl) (⟨ph_start h4, hb⟩) ?_
  refine ⟨fun j w1 hC => by exact Chn.upon_pure hC (fun F hF => by (go_simp <;> exact hF)), ?_⟩
  simp only [Act.put, List.setIfInBounds_toArray, List.set_cons_succ, List.set_cons_zero]
  refine ⟨fun j w1 hC => by exact Chn.upon_pure hC (fun F hF => by (go_simp <;> exact hF)), ?_⟩
  simp only [Act.put, List.setIfInBounds_toArray, List.set_cons_succ, List.set_cons_zero]
  refine ⟨fun j w1 hC => by exact Chn.upon_pure hC (fun F hF => by (go_simp <;> exact hF)), ?_⟩
  simp only [Act.put, List.setIfInBounds_toArray, List.set_cons_succ, List.set_cons_zero]
  refine ⟨fun j w1 hC => by exact Chn.upon_pure hC (fun F hF => by (go_simp <;> exact hF)), ?_⟩
  simp only [Act.put, List.setIfInBounds_toArray, List.set_cons_succ, List.set_cons_zero]
  refine ⟨fun j w1 hC => by exact Chn.upon_pure hC (fun F hF => by (go_simp <;> exact hF)), ?_⟩
  simp only [Act.put, List.setIfInBounds_toArray, List.set_cons_succ, List.set_cons_zero]
  refine ⟨fun j w1 hC => by have hq := at_i hC.1.1 2 (.int .i64 i.rd) (by decide) rfl; exact Chn.upon_pure hC (fun F hF => by (go_simp <;> exact hF)), ?_⟩
  simp only [Act.put, List.setIfInBounds_toArray, List.set_cons_succ, List.set_cons_zero]
  refine ⟨fun j w1 hC => by exact Chn.upon_pure hC (fun F hF => by (go_simp <;> exact hF)), ?_⟩
  simp only [Act.put, List.setIfInBounds_toArray, List.set_cons_succ, List.set_cons_zero]
  refine ⟨fun j w1 hC => by exact Chn.upon_pure hC (fun F hF => by (go_simp <;> exact hF)), ?_⟩
  simp only [Act.put, List.setIfInBounds_toArray, List.set_cons_succ, List.set_cons_zero]
  refine ⟨fun j w1 hC => by exact Chn.upon_pure hC (fun F hF => by (go_simp <;> exact hF)), ?_⟩
  simp only [Act.put, List.setIfInBounds_toArray, List.set_cons_succ, List.set_cons_zero]
  refine ⟨fun j w1 hC => by exact Chn.upon_pure hC (fun F hF => by (go_simp <;> exact hF)), ?_⟩
  simp only [Act.put, List.setIfInBounds_toArray, List.set_cons_succ, List.set_cons_zero]
  refine ⟨fun j w1 hC => by have hq := (hs ▸ at_i hC.1.1 1 (.int .i64 i.sub) (by decide) rfl : w1.cell? ⟨g, 1, none⟩ = some (.int .i64 3)); exact Chn.upon_pure hC (fun F hF => by (go_simp <;> exact hF)), ?_⟩
  simp only [Act.put, List.setIfInBounds_toArray, List.set_cons_succ, List.set_cons_zero]
  refine ⟨fun j w1 hC => by exact Chn.upon_pure hC (fun F hF => by (go_simp <;> exact hF)), ?_⟩
  simp only [Act.put, List.setIfInBounds_toArray, List.set_cons_succ, List.set_cons_zero]
  refine ⟨fun j w1 hC => by have hq := cell_at hC.2 3 (.int .u64 (IntKind.u64.wrap (-X))) rfl; exact Chn.upon_pure hC (fun F hF => by (go_simp <;> exact hF)), ?_⟩
  simp only [Act.put, List.setIfInBounds_toArray, List.set_cons_succ, List.set_cons_zero]
  refine ⟨fun w1 hC => by exact Chn.upon_call (setX_c g ⟨i, c, k, e⟩ i.rd (IntKind.u64.wrap (-X)) w1 hC.1.1) (fun e2 w2 hh => ⟨hh.1, hC.next hn hh.2.1 hh.2.2⟩) (fun F hF => by (go_simp <;> exact hF)), ?_⟩
  simp only [Act.put, List.setIfInBounds_toArray, List.set_cons_succ, List.set_cons_zero]
  intro w5 hC
  go_wp2
  first | go_end0 | ((try simp only [Exit.inBlock, Exit.then]); refine bodyPost_ret (results_none rfl _ _ _) rfl ?_)
  exact ⟨rfl, hC.1.1, (hB1.trans ((but_below hB3).trans (but_below hB4))).trans hC.1.2⟩
end Go.Proofs.YtbjcdpmhmebjnaaGreat
/- As Chn: a region that draws its order and whose calls turn memory; an operation that one of the calls waits for need hold only in the worlds ahead of that call. No program is named. -/
namespace Go.Chn
open Go Go.RowKit Go.Rel

theorem phase_le {m : Nat → Bool} : ∀ {chain : List Nat} {l k : Nat}, chain[l]? = some k → m k = false → phase chain m ≤ l
  | [], _, _, h, _ => by simp at h
  | c :: r, 0, k, h, hk => by
    obtain rfl : c = k := by simpa using h
    simp [phase, hk]
  | c :: r, l + 1, k, h, hk => by
    have := phase_le (chain := r) (l := l) (k := k) (by simpa using h) hk
    unfold phase at this ⊢
    rw [List.takeWhile_cons]
    cases m c
    · simp
    · simpa using this
/-- lims: of each operation the place in the chain of a call that waits for it (or the chain's length). -/
def limOk (ops : Array Oper) (chain : List Nat) (lims : List Nat) : Bool :=
  (List.range ops.size).all fun i => match chain[lims.getD i chain.length]? with
    | none => decide (chain.length ≤ lims.getD i chain.length)
    | some k => waits ops k i
theorem lim_le {ops : Array Oper} {chain lims : List Nat} (h : limOk ops chain lims = true) {i : Nat} (hi : i < ops.size) {m : Nat → Bool} (hm : m i = false) (hcl : ∀ a b, waits ops a b = true → m a = true → m b = true) : phase chain m ≤ lims.getD i chain.length := by
  have := List.all_eq_true.1 h i (List.mem_range.2 hi)
  cases hk : chain[lims.getD i chain.length]? with
  | none =>
    simp only [hk, decide_eq_true_eq] at this
    refine Nat.le_trans ?_ this
    exact (List.takeWhile_prefix _).length_le
  | some k =>
    simp only [hk] at this
    refine phase_le hk ?_
    cases e : m k
    · rfl
    · rw [hcl k i this e] at hm; cases hm
def wpChm (P : Program) (Cs : Nat → World → Prop) (chain lims : List Nat) (Q : Exit → Act → World → Prop) : Nat → List Oper → List Value → Act → Prop
  | i, o :: rest, c :: cs, a =>
    (match chain.findIdx? (· == i) with
      | none => ∀ (j : Nat) (w : World), j ≤ lims.getD i chain.length → Cs j w → upon P (fun v w' => v = c ∧ Cs j w') w ((execOp a.eval o).run P w)
      | some j => ∀ w : World, Cs j w → upon P (fun v w' => v = c ∧ Cs (j + 1) w') w ((execOp a.eval o).run P w)) ∧ wpChm P Cs chain lims Q (i + 1) rest cs (a.put o.dst c)
  | _, [], [], a => ∀ w : World, Cs chain.length w → Q .normal a w
  | _, _, _, _ => False

section
variable {P : Program} {ops : Array Oper} {Cs : Nat → World → Prop} {chain lims : List Nat} {a0 : Act} {Q : Exit → Act → World → Prop}
theorem wpChm_use (vals : Nat → Value) : ∀ (l : List Oper) (cs : List Value) (i : Nat) (a : Act),
    (∀ j, j < l.length → l[j]? = ops[i + j]?) → (∀ j, j < cs.length → cs[j]? = some (vals (i + j))) → a = fill ops vals (fun _ => true) a0 i → wpChm P Cs chain lims Q i l cs a →
    (∀ j o, i ≤ j → j < i + l.length → ops[j]? = some o → match chain.findIdx? (· == j) with
      | none => ∀ (t : Nat) (w : World), t ≤ lims.getD j chain.length → Cs t w → upon P (fun v w' => v = vals j ∧ Cs t w') w ((execOp (fill ops vals (fun _ => true) a0 j).eval o).run P w)
      | some t => ∀ w : World, Cs t w → upon P (fun v w' => v = vals j ∧ Cs (t + 1) w') w ((execOp (fill ops vals (fun _ => true) a0 j).eval o).run P w)) ∧
    (∀ w, Cs chain.length w → Q .normal (fill ops vals (fun _ => true) a0 (i + l.length)) w)
  | [], [], i, a, hl, hk, ha, h => by
    refine ⟨fun j o hij hlt => absurd hlt (by simp; omega), fun w hC => ?_⟩
    simp only [List.length_nil, Nat.add_zero]
    rw [← ha]
    exact h w hC
  | [], _ :: _, _, _, _, _, _, h => by simp [wpChm] at h
  | _ :: _, [], _, _, _, _, _, h => by simp [wpChm] at h
  | o :: rest, c :: cs, i, a, hl, hk, ha, h => by
    have ho : ops[i]? = some o := by simpa using (hl 0 (by simp)).symm
    have hc : c = vals i := by simpa using hk 0 (by simp)
    have hl' : ∀ j, j < rest.length → rest[j]? = ops[i + 1 + j]? := fun j hj => by have := hl (j + 1) (by simp; omega); simpa [Nat.add_assoc, Nat.add_comm 1 j] using this
    have hk' : ∀ j, j < cs.length → cs[j]? = some (vals (i + 1 + j)) := fun j hj => by have := hk (j + 1) (by simp; omega); simpa [Nat.add_assoc, Nat.add_comm 1 j] using this
    have hput : a.put o.dst (vals i) = fill ops vals (fun _ => true) a0 (i + 1) := by
      rw [ha]; show _ = if true = true then _ else _
      rw [if_pos rfl]; simp [dstOf, ho]
    obtain ⟨h1, h2⟩ := h
    rw [hc, hput] at h2
    obtain ⟨r1, r2⟩ := wpChm_use vals rest cs (i + 1) _ hl' hk' rfl h2
    have hN : i + (o :: rest).length = i + 1 + rest.length := by simp; omega
    rw [hN]
    refine ⟨fun j o' hij hjN ho' => ?_, r2⟩
    by_cases e : i = j
    · subst e
      obtain rfl : o = o' := Option.some.inj (ho.symm.trans ho')
      rw [← ha, ← hc]
      exact h1
    · exact r1 j o' (by omega) hjN ho'
end
/-- ONE WALK, IN THE ORDER OF THE TEXT, SERVES EVERY ORDER. -/
theorem wp_region_chainL {P : Program} {id : Nat} {Q : Exit → Act → World → Prop} {a : Act} {w : World} {l : List Oper} (Cs : Nat → World → Prop) (chain lims : List Nat) (cs : List Value) (hm : P.follows .mixedOrders = true) (hok : okB l.toArray = true) (hlk : linked l.toArray chain = true) (hch : chain.all (fun k => decide (k < l.length)) = true) (hli : limOk l.toArray chain lims = true)
    (hw : Cs 0 { w with drawn := w.drawn + 1 }) (h : wpChm P Cs chain lims Q 0 l cs a) : (Code.region id l.toArray true).wp P Q a w := by
  refine wp_region_any hm ?_
  have hvals : ∀ j, j < cs.length → cs[j]? = some ((fun k => cs.getD k undef) (0 + j)) := fun j hj => by simp [hj]
  obtain ⟨u1, u2⟩ := wpChm_use (P := P) (ops := l.toArray) (Cs := Cs) (chain := chain) (lims := lims) (Q := Q) (a0 := a) (fun k => cs.getD k undef) l cs 0 a (fun j _ => by simp) hvals rfl h
  have hphase0 : phase chain (fun k => (Array.replicate l.toArray.size false).getD k false) = 0 := by
    cases chain with
    | nil => rfl
    | cons c r =>
      unfold phase
      rw [List.takeWhile_cons, getD_replicate_false]
      rfl
  have main := wpAny_chn (P := P) (ops := l.toArray) (C := fun m w => Cs (phase chain m) w) (a0 := a) (Q := Q) hok (fun k => cs.getD k undef)
    (fun i o ho m w hmi hwi hlate hcl hC => by
      have hlt : i < l.length := by simpa using (Array.getElem?_eq_some_iff.1 ho).1
      have := u1 i o (Nat.zero_le _) (by omega) ho
      by_cases hi : i ∈ chain
      · obtain ⟨pre, post, rfl⟩ := List.append_of_mem hi
        have hpre := linked_pre hok hlk m hwi hcl
        have hnp : i ∉ pre := fun hh => absurd (hpre i hh).2 (Nat.lt_irrefl _)
        have hf : (pre ++ i :: post).findIdx? (· == i) = some pre.length := by
          rw [List.findIdx?_append, List.findIdx?_eq_none_iff.2 (fun k hk => by simpa using fun e : k = i => hnp (e ▸ hk))]
          simp [List.findIdx?_cons]
        rw [hf] at this
        have e1 : phase (pre ++ i :: post) m = pre.length := phase_at (fun k hk => (hpre k hk).1) hmi
        have e2 : phase (pre ++ i :: post) (fun k => k == i || m k) = pre.length + 1 := phase_next (fun k hk => (hpre k hk).1) hnp (fun k hk => by
          have hk' := linked_post hlk k hk
          exact ⟨hlate k hk', fun e => by have := waits_back hok hk'; omega⟩)
        rw [e1] at hC
        rw [e2]
        exact this w hC
      · have hf : chain.findIdx? (· == i) = none := List.findIdx?_eq_none_iff.2 (fun k hk => by simpa using fun e : k = i => hi (e ▸ hk))
        rw [hf] at this
        rw [phase_other hi]
        exact this _ w (lim_le hli (by simpa using hlt) hmi hcl) hC)
    (fun m w hall hC => by
      have : phase chain m = chain.length := phase_all (fun k hk => hall k (by have := List.all_eq_true.1 hch k hk; simpa using this))
      rw [this] at hC
      have := u2 w hC
      simpa using this)
    l.toArray.size (Array.replicate l.toArray.size false) { w with drawn := w.drawn + 1 }
    ⟨by simp, (fun j oj _ hl => by rw [getD_replicate_false] at hl; exact absurd hl (by simp)), by rw [hphase0]; exact hw⟩
    (cnt_replicate _ _)
  have e : fill l.toArray (fun k => cs.getD k undef) (fun k => (Array.replicate l.toArray.size false).getD k false) a l.toArray.size = a := by
    have : ∀ n, fill l.toArray (fun k => cs.getD k undef) (fun k => (Array.replicate l.toArray.size false).getD k false) a n = a := by
      intro n
      induction n with
      | zero => rfl
      | succ n ih => unfold fill; rw [getD_replicate_false]; simpa using ih
    exact this _
  rwa [e] at main
end Go.Chn
/- Worlds that hold some states of a call's own, each in a block of its own: read, turned, laid down. -/
namespace Go.Proofs.YtbjcdpmhmebjnaaGreat
open Go.RowKit
set_option linter.unusedVariables false

structure Own (w0 : World) (L : List (Nat × Cor)) (w : World) : Prop where
  below : Below w0.heap.size w0 w
  box : ∀ p ∈ L, w0.heap.size ≤ p.1 ∧ w.heap[p.1]? = some (.cells p.2.cells 26)
  apart : (L.map (·.1)).Nodup
theorem own_none (w : World) : Own w [] w := ⟨Below.refl _ _, fun _ h => absurd h List.not_mem_nil, List.nodup_nil⟩
theorem Own.lt {w0 w : World} {L : List (Nat × Cor)} (h : Own w0 L w) {p : Nat × Cor} (hp : p ∈ L) : p.1 < w.heap.size := (Array.getElem?_eq_some_iff.1 (h.box p hp).2).1
theorem Own.grow {w0 w w' : World} {L : List (Nat × Cor)} (h : Own w0 L w) (hb : Below w.heap.size w w') : Own w0 L w' := by
  refine ⟨r_below_then h.below hb, fun p hp => ?_, h.apart⟩
  exact ⟨(h.box p hp).1, by rw [hb.block _ (h.lt hp)]; exact (h.box p hp).2⟩
theorem Own.more {w0 w : World} {L : List (Nat × Cor)} (h : Own w0 L w) (d : Cor) : Own w0 ((w.heap.size, d) :: L) (w.alloc (.cells d.cells 26)) := by
  refine ⟨r_below_then h.below (r_below_alloc _ _), fun p hp => ?_, ?_⟩
  · rcases List.mem_cons.1 hp with rfl | hp
    · exact ⟨h.below.size, heap_alloc_new _ _⟩
    · exact ⟨(h.box p hp).1, by rw [Below.heap_alloc _ _ _ (h.lt hp)]; exact (h.box p hp).2⟩
  · rw [List.map_cons, List.nodup_cons]
    refine ⟨fun hm => ?_, h.apart⟩
    obtain ⟨p, hp, e⟩ := List.mem_map.1 hm
    have := h.lt hp
    omega
theorem own_one (c : Cor) (w : World) : Own w [(w.heap.size, c)] (w.alloc (.cells c.cells 26)) := (own_none w).more c
theorem own_two (c : Cor) (w : World) (Z : Array Value) (hZ : Z = nilC.cells) : Own w [(w.heap.size + 1, nilC), (w.heap.size, c)] ((w.alloc (.cells c.cells 26)).alloc (.cells Z 26)) := by
  subst hZ
  have := (own_one c w).more nilC
  rwa [show (w.alloc (.cells c.cells 26)).heap.size = w.heap.size + 1 by simp] at this
theorem Own.add {w0 w : World} {L : List (Nat × Cor)} (h : Own w0 L w) (d : Cor) (Z : Array Value) : Own w0 ((w.heap.size, d) :: L) ((w.alloc (.cells Z 26)).setRow w.heap.size d.cells) := by
  refine ⟨r_below_setRow (r_below_then h.below (r_below_alloc _ _)) h.below.size, fun p hp => ?_, (h.more d).apart⟩
  rcases List.mem_cons.1 hp with rfl | hp
  · exact ⟨h.below.size, setRow_heap _ _ _ _ _ _ (heap_alloc_new _ _)⟩
  · have := h.lt hp
    exact ⟨(h.box p hp).1, by rw [setRow_other _ _ _ _ (by omega), Below.heap_alloc _ _ _ this]; exact (h.box p hp).2⟩
theorem Own.get {w0 w : World} {L : List (Nat × Cor)} (h : Own w0 L w) {b : Nat} {c : Cor} (hp : (b, c) ∈ L) : w.heap[b]? = some (.cells c.cells 26) := (h.box _ hp).2
theorem Own.at {w0 w : World} {L : List (Nat × Cor)} (h : Own w0 L w) {b : Nat} {c : Cor} (hp : (b, c) ∈ L) (k : Nat) (v : Value) (hv : c.cells[k]? = some v) : w.cell? ⟨b, k, none⟩ = some v := by
  rw [cell_of_row _ _ _ _ _ _ (h.get hp), hv]
/-- One state of them turned. -/
theorem Own.put {w0 w : World} {A L : List (Nat × Cor)} {b : Nat} {c : Cor} (h : Own w0 (A ++ (b, c) :: L) w) (d : Cor) : Own w0 (A ++ (b, d) :: L) (w.setRow b d.cells) := by
  have hb := h.box (b, c) (by simp)
  have hap := h.apart
  simp only [List.map_append, List.map_cons] at hap
  have hne : ∀ p : Nat × Cor, (p ∈ A ∨ p ∈ L) → p.1 ≠ b := by
    intro p hp e
    rw [List.nodup_append] at hap
    rcases hp with hp | hp
    · exact hap.2.2 p.1 (List.mem_map.2 ⟨p, hp, rfl⟩) b (by simp) e
    · have := hap.2.1
      rw [List.nodup_cons] at this
      exact this.1 (e ▸ List.mem_map.2 ⟨p, hp, rfl⟩)
  refine ⟨r_below_setRow h.below hb.1, fun p hp => ?_, by simpa using hap⟩
  rcases List.mem_append.1 hp with hp | hp
  · exact ⟨(h.box p (by simp [hp])).1, by rw [setRow_other _ _ _ _ (hne p (.inl hp))]; exact (h.box p (by simp [hp])).2⟩
  · rcases List.mem_cons.1 hp with rfl | hp
    · exact ⟨hb.1, setRow_heap _ _ _ _ _ _ hb.2⟩
    · exact ⟨(h.box p (by simp [hp])).1, by rw [setRow_other _ _ _ _ (hne p (.inr hp))]; exact (h.box p (by simp [hp])).2⟩
theorem setCell_row {w : World} {b k : Nat} {c d : Cor} {v : Value} (h : w.heap[b]? = some (.cells c.cells 26)) (hd : c.cells.setIfInBounds k v = d.cells) : w.setCell ⟨b, k, none⟩ v = w.setRow b d.cells := by
  rw [← hd]
  exact setCell_eq_setRow w b k c.cells 26 (0, 0) v h
/-- A block of one's own that was made beside. -/
def FreshT (w0 : World) (L : List (Nat × Cor)) (v : Value) (w : World) : Prop := ∃ b Z, v = .pointer (some ⟨b, 0, none⟩) ∧ w0.heap.size ≤ b ∧ (∀ p ∈ L, p.1 < b) ∧ w.heap[b]? = some (.cells Z 26) ∧ Z.size = 49
theorem fresh_upT (w0 : World) (L : List (Nat × Cor)) (v : Value) : Rel.Up Rel.Grows (FreshT w0 L v) := fun _ _ ⟨b, Z, e, hn, hl, hh, hz⟩ hb => ⟨b, Z, e, hn, hl, by rw [hb.block _ (Array.getElem?_eq_some_iff.1 hh).1]; exact hh, hz⟩
theorem own_up (w0 : World) (L : List (Nat × Cor)) : Rel.Up Rel.Grows (Own w0 L) := fun _ _ h hb => h.grow hb
theorem fresh_newT {w0 w : World} {L : List (Nat × Cor)} {Z : Array Value} (h : Own w0 L w) (hZ : Z.size = 49) : FreshT w0 L (.pointer (some ⟨w.heap.size, 0, none⟩)) (w.alloc (.cells Z 26)) := ⟨_, Z, rfl, h.below.size, fun _ hp => h.lt hp, heap_alloc_new _ _, hZ⟩
theorem Own.lay {w0 w : World} {L : List (Nat × Cor)} {b : Nat} {Z : Array Value} (h : Own w0 L w) (hb : w0.heap.size ≤ b) (hl : ∀ p ∈ L, p.1 < b) (hh : w.heap[b]? = some (.cells Z 26)) (d : Cor) : Own w0 ((b, d) :: L) (w.setRow b d.cells) := by
  refine ⟨r_below_setRow h.below hb, fun p hp => ?_, ?_⟩
  · rcases List.mem_cons.1 hp with rfl | hp
    · exact ⟨hb, setRow_heap _ _ _ _ _ _ hh⟩
    · have := hl p hp
      exact ⟨(h.box p hp).1, by rw [setRow_other _ _ _ _ (by omega)]; exact (h.box p hp).2⟩
  · rw [List.map_cons, List.nodup_cons]
    refine ⟨fun hm => ?_, h.apart⟩
    obtain ⟨p, hp, e⟩ := List.mem_map.1 hm
    have := hl p hp
    omega
theorem info_one (ty : TypeId) (h : ty = 22 ∨ ty = 3 ∨ ty = 4) : (Tryz.prog.info? ty).map (·.size) = some 1 := by
  rcases h with rfl | rfl | rfl <;> kernel_rfl
theorem agg_no (ty : TypeId) (h : ty = 22 ∨ ty = 3 ∨ ty = 4) (w : World) : (isAgg ty).run Tryz.prog w = .ok false w := by
  rcases h with rfl | rfl | rfl
  · simp [isAgg, run_underlying Tryz.underlying22]
  · simp [isAgg, run_underlying Tryz.underlying3]
  · simp [isAgg, run_underlying Tryz.underlying4]
section
variable {w0 w : World} {L : List (Nat × Cor)} {ops : Array Oper} {rest : List Oper} {o : Oper} {a : Act} {Q : Exit → Act → World → Prop}
/-- A cell read. -/
theorem wpList_get (hw : Region.wanted o (yielded ops a.tmps) = true) (ty : TypeId) (x : Operand) (ho : o.op = .load ty x) (hty : ty = 22 ∨ ty = 3 ∨ ty = 4) (b k : Nat) (hx : a.eval x = .pointer (some ⟨b, k, none⟩)) (v : Value) (hc : w.cell? ⟨b, k, none⟩ = some v)
    (h : wpList Tryz.prog ops Q rest (a.put o.dst v) w) : wpList Tryz.prog ops Q (o :: rest) a w := by
  refine BigFrame.wpList_want hw fun K hK => ?_
  unfold Oper.wp execOp
  have ha := agg_no ty hty w
  have hl : (loadVar ty ⟨b, k, none⟩).run Tryz.prog w = .ok v w := by go_simp
  simp only [ho, hx, Instr.loadAt, Instr.sureAddr, Sem.run_bind, Sem.run_pure, Result.andThen_ok, hl]
  exact hK _ _ h
theorem wpList_get0 {b : Nat} {c : Cor} (H : Own w0 ((b, c) :: L) w) (hw : Region.wanted o (yielded ops a.tmps) = true) (ty : TypeId) (x : Operand) (ho : o.op = .load ty x) (k : Nat) (hx : a.eval x = .pointer (some ⟨b, k, none⟩)) (hty : ty = 22 ∨ ty = 3 ∨ ty = 4) (v : Value) (hc : c.cells[k]? = some v)
    (h : wpList Tryz.prog ops Q rest (a.put o.dst v) w) : wpList Tryz.prog ops Q (o :: rest) a w := wpList_get hw ty x ho hty b k hx v (H.at List.mem_cons_self k v hc) h
theorem wpList_get1 {p1 : Nat × Cor} {b : Nat} {c : Cor} (H : Own w0 (p1 :: (b, c) :: L) w) (hw : Region.wanted o (yielded ops a.tmps) = true) (ty : TypeId) (x : Operand) (ho : o.op = .load ty x) (k : Nat) (hx : a.eval x = .pointer (some ⟨b, k, none⟩)) (hty : ty = 22 ∨ ty = 3 ∨ ty = 4) (v : Value) (hc : c.cells[k]? = some v)
    (h : wpList Tryz.prog ops Q rest (a.put o.dst v) w) : wpList Tryz.prog ops Q (o :: rest) a w := wpList_get hw ty x ho hty b k hx v (H.at (List.mem_cons_of_mem _ List.mem_cons_self) k v hc) h
theorem wpList_get2 {p1 p2 : Nat × Cor} {b : Nat} {c : Cor} (H : Own w0 (p1 :: p2 :: (b, c) :: L) w) (hw : Region.wanted o (yielded ops a.tmps) = true) (ty : TypeId) (x : Operand) (ho : o.op = .load ty x) (k : Nat) (hx : a.eval x = .pointer (some ⟨b, k, none⟩)) (hty : ty = 22 ∨ ty = 3 ∨ ty = 4) (v : Value) (hc : c.cells[k]? = some v)
    (h : wpList Tryz.prog ops Q rest (a.put o.dst v) w) : wpList Tryz.prog ops Q (o :: rest) a w := wpList_get hw ty x ho hty b k hx v (H.at (List.mem_cons_of_mem _ (List.mem_cons_of_mem _ List.mem_cons_self)) k v hc) h
/-- A cell laid down. -/
theorem run_lay {A : List (Nat × Cor)} {b : Nat} {c : Cor} (H : Own w0 (A ++ (b, c) :: L) w) (ty : TypeId) (hty : ty = 22 ∨ ty = 3 ∨ ty = 4) (k : Nat) (v : Value) (d : Cor) (h1 : (∃ k n, v = .int k n) ∨ ∃ b, v = .bool b) (hk : k < 49) (hd : c.cells.setIfInBounds k v = d.cells) :
    (storeVar ty ⟨b, k, none⟩ v).run Tryz.prog w = .ok () (w.setRow b d.cells) := by
  have hg := H.get (b := b) (c := c) (by simp)
  have hc : w.cell? ⟨b, k, none⟩ = c.cells[k]? := cell_of_row _ _ _ _ _ _ hg
  obtain ⟨old, ho2⟩ : ∃ old, c.cells[k]? = some old := ⟨_, Array.getElem?_eq_getElem (by rw [c.size]; exact hk)⟩
  rw [ho2] at hc
  have hf : w.frozen? ⟨b, k, none⟩ = false := frozen_of_row _ _ _ _ _ hg
  have hst : (store ⟨b, k, none⟩ v .plain).run Tryz.prog w = .ok () (w.setCell ⟨b, k, none⟩ v) := by
    rw [run_store Tryz.prog w _ _ _ (by rcases h1 with ⟨_, _, rfl⟩ | ⟨_, rfl⟩ <;> rfl), hc, hf]; rfl
  rw [← setCell_row hg hd]
  have hi := info_one ty hty
  cases hq : Tryz.prog.info? ty with
  | none => simp [hq] at hi
  | some i =>
    have hs : i.size = 1 := by simpa [hq] using hi
    have hadd : (⟨b, k, none⟩ : Addr).add 0 = ⟨b, k, none⟩ := by unfold Addr.add; split <;> simp_all
    rcases h1 with ⟨k1, n1, rfl⟩ | ⟨b1, rfl⟩
    · simp [storeVar, sizeOf, typeInfo, hq, hs, Value.cells, storeCells, hadd, hst]
    · simp [storeVar, sizeOf, typeInfo, hq, hs, Value.cells, storeCells, hadd, hst]
theorem wpList_lay {A : List (Nat × Cor)} {b : Nat} {c : Cor} (H : Own w0 (A ++ (b, c) :: L) w) (hgd : o.guard = none) (ty : TypeId) (x y : Operand) (ho : o.op = .store ty x y) (hty : ty = 22 ∨ ty = 3 ∨ ty = 4) (k : Nat) (hx : a.eval x = .pointer (some ⟨b, k, none⟩)) (v : Value) (hy : a.eval y = v) (d : Cor) (h1 : (∃ k n, v = .int k n) ∨ ∃ b, v = .bool b) (hk : k < 49) (hd : c.cells.setIfInBounds k v = d.cells)
    (h : ∀ w2, Own w0 (A ++ (b, d) :: L) w2 → wpList Tryz.prog ops Q rest (a.put o.dst undef) w2) : wpList Tryz.prog ops Q (o :: rest) a w := by
  refine wpList_plain hgd fun K hK => ?_
  unfold Oper.wp execOp
  simp only [ho, hx, hy, Instr.storeAt, Instr.sureAddr, Sem.run_bind, Sem.run_pure, Result.andThen_ok, run_lay H ty hty k v d h1 hk hd]
  exact hK _ _ (h _ (H.put d))
/-- The same within a region that draws. -/
theorem chn_lay {A : List (Nat × Cor)} {b : Nat} {c : Cor} (H : Own w0 (A ++ (b, c) :: L) w) (ty : TypeId) (x y : Operand) (ho : o.op = .store ty x y) (hty : ty = 22 ∨ ty = 3 ∨ ty = 4) (k : Nat) (hx : a.eval x = .pointer (some ⟨b, k, none⟩)) (v : Value) (hy : a.eval y = v) (d : Cor) (h1 : (∃ k n, v = .int k n) ∨ ∃ b, v = .bool b) (hk : k < 49) (hd : c.cells.setIfInBounds k v = d.cells)
    {C : World → Prop} (h : ∀ w2, Own w0 (A ++ (b, d) :: L) w2 → C w2) : Chn.upon Tryz.prog (fun v w' => v = undef ∧ C w') w ((execOp a.eval o).run Tryz.prog w) := by
  unfold execOp
  simp only [ho, hx, hy, Instr.storeAt, Instr.sureAddr, Sem.run_bind, Sem.run_pure, Result.andThen_ok, run_lay H ty hty k v d h1 hk hd]
  exact ⟨rfl, h _ (H.put d)⟩
theorem run_all {b : Nat} {c : Cor} (H : Own w0 L w) (hm : (b, c) ∈ L) : (loadVar 26 ⟨b, 0, none⟩).run Tryz.prog w = .ok c.val w := run_loadVar_row w b 26 26 c.cells (0, 0) _ (H.get hm) Tryz.underlying26 rfl c.info
theorem chn_all {b : Nat} {c : Cor} (H : Own w0 L w) (x : Operand) (ho : o.op = .load 26 x) (hx : a.eval x = .pointer (some ⟨b, 0, none⟩)) (hm : (b, c) ∈ L) {C : World → Prop} (hC : C w) :
    Chn.upon Tryz.prog (fun v w' => v = c.val ∧ C w') w ((execOp a.eval o).run Tryz.prog w) := by
  unfold execOp
  simp only [ho, hx, Instr.loadAt, Instr.sureAddr, Sem.run_bind, Sem.run_pure, Result.andThen_ok, run_all H hm]
  exact ⟨rfl, hC⟩
theorem rel_all {b : Nat} {c : Cor} (H : Own w0 L w) (x : Operand) (ho : o.op = .load 26 x) (hx : a.eval x = .pointer (some ⟨b, 0, none⟩)) (hm : (b, c) ∈ L) :
    Rel.relUpon Tryz.prog Rel.Grows (fun v _ => v = c.val) w ((execOp a.eval o).run Tryz.prog w) := by
  unfold execOp
  simp only [ho, hx, Instr.loadAt, Instr.sureAddr, Sem.run_bind, Sem.run_pure, Result.andThen_ok, run_all H hm]
  exact ⟨Below.refl _ _, rfl⟩
theorem wpList_layI0 {b : Nat} {c : Cor} (H : Own w0 ((b, c) :: L) w) (hgd : o.guard = none) (ty : TypeId) (x y : Operand) (ho : o.op = .store ty x y) (k : Nat) (hx : a.eval x = .pointer (some ⟨b, k, none⟩)) (hty : ty = 22 ∨ ty = 3 ∨ ty = 4) (q : IntKind) (n : Int) (hy : a.eval y = .int q n) (d : Cor) (hk : k < 49) (hd : c.cells.setIfInBounds k (.int q n) = d.cells)
    (h : ∀ w2, Own w0 ((b, d) :: L) w2 → wpList Tryz.prog ops Q rest (a.put o.dst undef) w2) : wpList Tryz.prog ops Q (o :: rest) a w := wpList_lay (A := []) H hgd ty x y ho hty k hx _ hy d (.inl ⟨_, _, rfl⟩) hk hd h
theorem wpList_layB0 {b : Nat} {c : Cor} (H : Own w0 ((b, c) :: L) w) (hgd : o.guard = none) (ty : TypeId) (x y : Operand) (ho : o.op = .store ty x y) (k : Nat) (hx : a.eval x = .pointer (some ⟨b, k, none⟩)) (hty : ty = 22 ∨ ty = 3 ∨ ty = 4) (u : Bool) (hy : a.eval y = .bool u) (d : Cor) (hk : k < 49) (hd : c.cells.setIfInBounds k (.bool u) = d.cells)
    (h : ∀ w2, Own w0 ((b, d) :: L) w2 → wpList Tryz.prog ops Q rest (a.put o.dst undef) w2) : wpList Tryz.prog ops Q (o :: rest) a w := wpList_lay (A := []) H hgd ty x y ho hty k hx _ hy d (.inr ⟨_, rfl⟩) hk hd h
theorem wpList_row0 {b : Nat} {c : Cor} (H : Own w0 ((b, c) :: L) w) (hgd : o.guard = none) (x y : Operand) (ho : o.op = .store 26 x y) (hx : a.eval x = .pointer (some ⟨b, 0, none⟩)) (d : Cor) (hy : a.eval y = .agg d.cells)
    (h : ∀ w2, Own w0 ((b, d) :: L) w2 → wpList Tryz.prog ops Q rest (a.put o.dst undef) w2) : wpList Tryz.prog ops Q (o :: rest) a w :=
  wpList_store_row hgd 26 x y ho _ _ hx hy 26 _ (H.get (b := b) (c := c) (by simp)) (Cor.info _) (by rw [c.size, d.size]) (Cor.one _) (h _ (H.put (A := []) d))
theorem wpList_layI1 {p1 : Nat × Cor} {b : Nat} {c : Cor} (H : Own w0 (p1 :: (b, c) :: L) w) (hgd : o.guard = none) (ty : TypeId) (x y : Operand) (ho : o.op = .store ty x y) (k : Nat) (hx : a.eval x = .pointer (some ⟨b, k, none⟩)) (hty : ty = 22 ∨ ty = 3 ∨ ty = 4) (q : IntKind) (n : Int) (hy : a.eval y = .int q n) (d : Cor) (hk : k < 49) (hd : c.cells.setIfInBounds k (.int q n) = d.cells)
    (h : ∀ w2, Own w0 (p1 :: (b, d) :: L) w2 → wpList Tryz.prog ops Q rest (a.put o.dst undef) w2) : wpList Tryz.prog ops Q (o :: rest) a w := wpList_lay (A := [p1]) H hgd ty x y ho hty k hx _ hy d (.inl ⟨_, _, rfl⟩) hk hd h
theorem wpList_layB1 {p1 : Nat × Cor} {b : Nat} {c : Cor} (H : Own w0 (p1 :: (b, c) :: L) w) (hgd : o.guard = none) (ty : TypeId) (x y : Operand) (ho : o.op = .store ty x y) (k : Nat) (hx : a.eval x = .pointer (some ⟨b, k, none⟩)) (hty : ty = 22 ∨ ty = 3 ∨ ty = 4) (u : Bool) (hy : a.eval y = .bool u) (d : Cor) (hk : k < 49) (hd : c.cells.setIfInBounds k (.bool u) = d.cells)
    (h : ∀ w2, Own w0 (p1 :: (b, d) :: L) w2 → wpList Tryz.prog ops Q rest (a.put o.dst undef) w2) : wpList Tryz.prog ops Q (o :: rest) a w := wpList_lay (A := [p1]) H hgd ty x y ho hty k hx _ hy d (.inr ⟨_, rfl⟩) hk hd h
theorem wpList_row1 {p1 : Nat × Cor} {b : Nat} {c : Cor} (H : Own w0 (p1 :: (b, c) :: L) w) (hgd : o.guard = none) (x y : Operand) (ho : o.op = .store 26 x y) (hx : a.eval x = .pointer (some ⟨b, 0, none⟩)) (d : Cor) (hy : a.eval y = .agg d.cells)
    (h : ∀ w2, Own w0 (p1 :: (b, d) :: L) w2 → wpList Tryz.prog ops Q rest (a.put o.dst undef) w2) : wpList Tryz.prog ops Q (o :: rest) a w :=
  wpList_store_row hgd 26 x y ho _ _ hx hy 26 _ (H.get (b := b) (c := c) (by simp)) (Cor.info _) (by rw [c.size, d.size]) (Cor.one _) (h _ (H.put (A := [p1]) d))
theorem wpList_layI2 {p1 p2 : Nat × Cor} {b : Nat} {c : Cor} (H : Own w0 (p1 :: p2 :: (b, c) :: L) w) (hgd : o.guard = none) (ty : TypeId) (x y : Operand) (ho : o.op = .store ty x y) (k : Nat) (hx : a.eval x = .pointer (some ⟨b, k, none⟩)) (hty : ty = 22 ∨ ty = 3 ∨ ty = 4) (q : IntKind) (n : Int) (hy : a.eval y = .int q n) (d : Cor) (hk : k < 49) (hd : c.cells.setIfInBounds k (.int q n) = d.cells)
    (h : ∀ w2, Own w0 (p1 :: p2 :: (b, d) :: L) w2 → wpList Tryz.prog ops Q rest (a.put o.dst undef) w2) : wpList Tryz.prog ops Q (o :: rest) a w := wpList_lay (A := [p1, p2]) H hgd ty x y ho hty k hx _ hy d (.inl ⟨_, _, rfl⟩) hk hd h
theorem wpList_layB2 {p1 p2 : Nat × Cor} {b : Nat} {c : Cor} (H : Own w0 (p1 :: p2 :: (b, c) :: L) w) (hgd : o.guard = none) (ty : TypeId) (x y : Operand) (ho : o.op = .store ty x y) (k : Nat) (hx : a.eval x = .pointer (some ⟨b, k, none⟩)) (hty : ty = 22 ∨ ty = 3 ∨ ty = 4) (u : Bool) (hy : a.eval y = .bool u) (d : Cor) (hk : k < 49) (hd : c.cells.setIfInBounds k (.bool u) = d.cells)
    (h : ∀ w2, Own w0 (p1 :: p2 :: (b, d) :: L) w2 → wpList Tryz.prog ops Q rest (a.put o.dst undef) w2) : wpList Tryz.prog ops Q (o :: rest) a w := wpList_lay (A := [p1, p2]) H hgd ty x y ho hty k hx _ hy d (.inr ⟨_, rfl⟩) hk hd h
theorem wpList_row2 {p1 p2 : Nat × Cor} {b : Nat} {c : Cor} (H : Own w0 (p1 :: p2 :: (b, c) :: L) w) (hgd : o.guard = none) (x y : Operand) (ho : o.op = .store 26 x y) (hx : a.eval x = .pointer (some ⟨b, 0, none⟩)) (d : Cor) (hy : a.eval y = .agg d.cells)
    (h : ∀ w2, Own w0 (p1 :: p2 :: (b, d) :: L) w2 → wpList Tryz.prog ops Q rest (a.put o.dst undef) w2) : wpList Tryz.prog ops Q (o :: rest) a w :=
  wpList_store_row hgd 26 x y ho _ _ hx hy 26 _ (H.get (b := b) (c := c) (by simp)) (Cor.info _) (by rw [c.size, d.size]) (Cor.one _) (h _ (H.put (A := [p1, p2]) d))
/-- A new variable of the call's own, behind the store of a state into it. -/
theorem wpList_new {Z : Array Value} (H : Own w0 L w) (hgd : o.guard = none) (x y : Operand) (ho : o.op = .store 26 x y)
    (d : Cor) (hx : a.eval x = .pointer (some ⟨w.heap.size, 0, none⟩)) (hy : a.eval y = .agg d.cells) (hZ : Z.size = 49)
    (h : ∀ w2, Own w0 ((w.heap.size, d) :: L) w2 → wpList Tryz.prog ops Q rest (a.put o.dst undef) w2) : wpList Tryz.prog ops Q (o :: rest) a (w.alloc (.cells Z 26)) :=
  wpList_store_row hgd 26 x y ho _ _ hx hy 26 _ (heap_alloc_new _ _) (Cor.info _) (hZ.trans d.size.symm) (Cor.one _) (h _ (H.add d Z))
theorem wpList_all {b : Nat} {c : Cor} (H : Own w0 L w) (hw : Region.wanted o (yielded ops a.tmps) = true) (x : Operand) (ho : o.op = .load 26 x) (hx : a.eval x = .pointer (some ⟨b, 0, none⟩)) (hm : (b, c) ∈ L)
    (h : wpList Tryz.prog ops Q rest (a.put o.dst c.val) w) : wpList Tryz.prog ops Q (o :: rest) a w :=
  r_wpList_load_if hw 26 x ho b hx 26 c.cells (0, 0) _ (H.get hm) Tryz.underlying26 rfl (Cor.info _) h
end
end Go.Proofs.YtbjcdpmhmebjnaaGreat
/- What chapter 7 makes of a state: plain functions. -/
namespace Go.Proofs.YtbjcdpmhmebjnaaGreat
open Go.RowKit
set_option linter.unusedVariables false

def pstV (c : Cor) : Int := nzcvV c + (bif c.mask then 128 else 0) + (if c.el = 1 then 5 else 0)
def mayB (v : Int) : Bool := bits .andNot .u64 v 4026531999 == 0 && (v % 32 == 0 || v % 32 == 5)
def vecV (c : Cor) : Int := if c.el = 0 then (c.vbar + 1024) % 18446744073709551616 else (c.vbar + 512) % 18446744073709551616
def wayV (class_ : Int) : Int := if class_ = 32 ∨ class_ = 33 ∨ class_ = 34 ∨ class_ = 36 ∨ class_ = 37 then 0 else 1
/-- The state at a vector. -/
def inV (c : Cor) (pc : Int) : Cor := { c with spsr := pstV c, elr := c.pc, el := 1, mask := true, wait := 0, pc := pc }
def intoV (c : Cor) (way esr far : Int) : Cor := inV { c with far := if way = 0 then far else c.far, esr := if way = 2 then c.esr else esr } (vecV c)
def esrV (class_ iss : Int) : Int := class_ * 67108864 + 33554432 + iss
def entB (c : Cor) (class_ iss : Int) : Bool := rightC c && decide (0 ≤ class_) && decide (class_ ≤ 63) && decide (0 ≤ iss) && decide (iss ≤ 33554431)
def svcV (d : Cor) (class_ : Int) : Cor := { d with elr := if class_ = 21 then (d.elr + 4) % 18446744073709551616 else d.elr }
def entC (c : Cor) (class_ iss far : Int) : Cor := svcV (intoV c (wayV class_) (esrV class_ iss) far) class_
def enterV (c : Cor) (class_ iss far : Int) : Cor := bif entB c class_ iss then entC c class_ iss far else nilC
def irqC (c : Cor) : Cor := { intoV c 2 0 0 with pc := (vecV c + 128) % 18446744073709551616 }
def irqV (c : Cor) : Cor := bif rightC c then irqC c else nilC
def withV (c : Cor) (v : Int) : Cor := { setNzcvV c v with mask := bitB v 7, el := if v % 32 = 5 then 1 else 0 }
def backC (c : Cor) : Cor := let d := bif mayB c.spsr then withV c c.spsr else c; { d with pc := c.elr, event := true }
def backV (c : Cor) : Cor := bif rightC c then backC c else nilC
def errB (b : Bool) : Int := bif b then 0 else 1
theorem intoV_0 (c : Cor) (esr far : Int) : intoV c 0 esr far = inV { c with far := far, esr := esr } (vecV c) := rfl
theorem and_level {v : Int} (h : U64 v) : bits .and .u64 v 31 = v % 32 := by
  obtain ⟨V, rfl, hV⟩ := nat_of h
  have := and64 V 31 hV (by decide)
  rw [show ((31 : Nat) : Int) = 31 from rfl] at this
  rw [this, show (31 : Nat) = 2 ^ 5 - 1 from rfl, Nat.and_two_pow_sub_one_eq_mod]
  omega
theorem or_mask (c : Cor) : bits .or .u64 (nzcvV c) 128 = nzcvV c + 128 := by
  unfold nzcvV
  cases c.n <;> cases c.z <;> cases c.c <;> cases c.v <;> rfl
theorem or_level (c : Cor) : bits .or .u64 (nzcvV c) 5 = nzcvV c + 5 := by
  unfold nzcvV
  cases c.n <;> cases c.z <;> cases c.c <;> cases c.v <;> rfl
theorem or_both (c : Cor) : bits .or .u64 (nzcvV c + 128) 5 = nzcvV c + 128 + 5 := by
  unfold nzcvV
  cases c.n <;> cases c.z <;> cases c.c <;> cases c.v <;> rfl
theorem wr_mask (c : Cor) : IntKind.u64.wrap (nzcvV c + 128) = nzcvV c + 128 := by
  unfold nzcvV
  cases c.n <;> cases c.z <;> cases c.c <;> cases c.v <;> rfl
theorem wr_level (c : Cor) : IntKind.u64.wrap (nzcvV c + 5) = nzcvV c + 5 := by
  unfold nzcvV
  cases c.n <;> cases c.z <;> cases c.c <;> cases c.v <;> rfl
theorem wr_both (c : Cor) : IntKind.u64.wrap (nzcvV c + 128 + 5) = nzcvV c + 128 + 5 := by
  unfold nzcvV
  cases c.n <;> cases c.z <;> cases c.c <;> cases c.v <;> rfl
theorem pstV_u64 (c : Cor) : U64 (pstV c) := by
  unfold pstV nzcvV U64
  split <;> cases c.n <;> cases c.z <;> cases c.c <;> cases c.v <;> cases c.mask <;> decide +kernel
theorem or_lowT (a b : Nat) (k : Nat) (hb : b < 2 ^ k) (ha : a < 2 ^ 62) (hk : k ≤ 26) : bits .or .i64 ((a * 2 ^ k : Nat) : Int) (b : Int) = ((a * 2 ^ k + b : Nat) : Int) ∨ 2 ^ 62 ≤ a * 2 ^ k + b := by
  by_cases hbig : 2 ^ 62 ≤ a * 2 ^ k + b
  · exact .inr hbig
  left
  have h1 : a * 2 ^ k + b < 2 ^ 62 := by omega
  have h2 : a * 2 ^ k < 2 ^ 62 := by omega
  have h3 : b < 2 ^ 62 := by omega
  have e : ∀ n : Nat, n < 2 ^ 62 → (BitVec.ofInt 64 (n : Int)).toNat = n := fun n hn => bv64 n (by omega)
  show IntKind.i64.wrap ((BitVec.ofInt 64 ((a * 2 ^ k : Nat) : Int) ||| BitVec.ofInt 64 (b : Int)).toNat : Int) = _
  rw [BitVec.toNat_or, e _ h2, e _ h3, Nat.mul_comm a, ← Nat.two_pow_add_eq_or_of_lt hb]
  rw [Nat.mul_comm a] at h1
  rw [IntKind.wrap_i64]
  omega
theorem or_esr (class_ iss : Int) (h0 : 0 ≤ class_) (h1 : class_ ≤ 63) (h2 : 0 ≤ iss) (h3 : iss ≤ 33554431) : bits .or .i64 (bits .or .i64 (class_ * 67108864) 33554432) iss = esrV class_ iss := by
  obtain ⟨C, rfl⟩ := Int.eq_ofNat_of_zero_le h0
  obtain ⟨I, rfl⟩ := Int.eq_ofNat_of_zero_le h2
  have p26 : (2 : Nat) ^ 26 = 67108864 := by decide +kernel
  have p25 : (2 : Nat) ^ 25 = 33554432 := by decide +kernel
  have p62 : (2 : Nat) ^ 62 = 4611686018427387904 := by decide +kernel
  have a1 := or_lowT C 33554432 26 (by rw [p26]; decide +kernel) (by rw [p62]; omega) (by decide)
  have a2 := or_lowT (C * 2 + 1) I 25 (by rw [p25]; omega) (by rw [p62]; omega) (by decide)
  rw [p26, p62] at a1
  rw [p25, p62] at a2
  rcases a1 with a1 | a1
  · have e1 : ((C * 67108864 : Nat) : Int) = (C : Int) * 67108864 := by rw [Int.natCast_mul]; rfl
    have e3 : C * 67108864 + 33554432 = (C * 2 + 1) * 33554432 := by omega
    rw [e1] at a1
    rcases a2 with a2 | a2
    · have a1' : bits .or .i64 ((C : Int) * 67108864) 33554432 = (((C * 2 + 1) * 33554432 : Nat) : Int) := by rw [← e3]; exact a1
      show bits .or .i64 (bits .or .i64 ((C : Int) * 67108864) 33554432) (I : Int) = _
      rw [a1', a2]
      unfold esrV
      rw [← e3, Int.natCast_add, Int.natCast_add, e1]
      rfl
    · omega
  · omega
end Go.Proofs.YtbjcdpmhmebjnaaGreat
