/- What Cbz, Tbz, Br with a link, Adr and MovWide do to a step: contracts. -/
import Derived.Test.YtbjcdpmhmebjnaaGreatD14
import Derived.Test.YtbjcdpmhmebjnaaGreatD01
import Derived.Test.YtbjcdpmhmebjnaaGreatD08
import Derived.Test.YtbjcdpmhmebjnaaGreatD04
import Derived.Below
import Derived.Laws.Rows
import Derived.Laws.ResultCell
import Derived.Laws.Externs
import Derived.Test.YtbjcdpmhmebjnaaGreatD05
import Derived.Test.YtbjcdpmhmebjnaaGreatD13
namespace Go.Proofs.YtbjcdpmhmebjnaaGreat
open Go.RowKit
set_option linter.unusedVariables false

def jumpV (c : Cor) (t : Bool) (b : Int) : Cor := bif t then { c with pc := b } else c
theorem jump_c (g : Nat) (i : Ins) (c : Cor) (k : Gt) (e : Int) (w : World) (h : w.heap[g]? = some (.cells (Stp.cells ⟨i, c, k, e⟩) 58)) (t : Bool) (a m b : Int) (ha : IntKind.u64.wrap (c.pc - 4) = a) (hm : i.imm % 18446744073709551616 = m) (hb : (a + m) % 18446744073709551616 = b) : Calls Tryz.prog 205 #[.pointer (some ⟨g, 0, none⟩), .bool t] w fun e2 w' => e2 = .returned (.tuple #[]) ∧ w'.heap[g]? = some (.cells (Stp.cells ⟨i, jumpV c t b, k, e⟩) 58) ∧ But g w w' := by
  cases t
  · exact jump_N g i c k e w h
  · exact jump_Y g i c k e w h a m b ha hm hb
set_option maxRecDepth 4000 in
set_option maxHeartbeats 2000000 in
theorem branchZero_c (g : Nat) (i : Ins) (c : Cor) (k : Gt) (e : Int) (w : World) (h : w.heap[g]? = some (.cells (Stp.cells ⟨i, c, k, e⟩) 58)) (X : Int) (hX : xV c i.rd = X) (a m b : Int) (ha : IntKind.u64.wrap (c.pc - 4) = a) (hm : i.imm % 18446744073709551616 = m) (hb : (a + m) % 18446744073709551616 = b) : Calls Tryz.prog 139 #[.pointer (some ⟨g, 0, none⟩)] w fun e2 w' => e2 = .returned (.tuple #[]) ∧ w'.heap[g]? = some (.cells (Stp.cells ⟨i, jumpV c ((X == 0) != i.not) b, k, e⟩) 58) ∧ But g w w' := by
  go_enter Tryz.func139, Tryz.ntmps139
  refine Chn.wp_region_chain (Ph g i (pick2 c (jumpV c ((X == 0) != i.not) b)) k e w) [7, 15] [(.pointer (some ⟨g, 0, none⟩)), (.pointer (some ⟨g, 0, none⟩)), (.pointer (some ⟨g, 0, none⟩)), (.pointer (some ⟨g, 0, none⟩)), (.pointer (some ⟨g, 0, none⟩)), (.pointer (some ⟨g, 2, none⟩)), (.int .i64 i.rd), (.int .u64 X), (.bool (X == 0)), (.pointer (some ⟨g, 0, none⟩)), (.pointer (some ⟨g, 0, none⟩)), (.pointer (some ⟨g, 0, none⟩)), (.pointer (some ⟨g, 14, none⟩)), (.bool i.not), (.bool ((X == 0) != i.not)), (.tuple #[])] (by kernel_rfl) (by kernel_rfl) (by kernel_rfl) (by kernel_rfl) (ph_start h) ?_
  refine ⟨fun j w1 hC => by exact Chn.upon_pure hC (fun F hF => by (go_simp <;> exact hF)), ?_⟩
  simp only [Act.put, List.setIfInBounds_toArray, List.set_cons_succ, List.set_cons_zero]
  refine ⟨fun j w1 hC => by exact Chn.upon_pure hC (fun F hF => by (go_simp <;> exact hF)), ?_⟩
  simp only [Act.put, List.setIfInBounds_toArray, List.set_cons_succ, List.set_cons_zero]
  refine ⟨fun j w1 hC => by exact Chn.upon_pure hC (fun F hF => by (go_simp <;> exact hF)), ?_⟩
  simp only [Act.put, List.setIfInBounds_toArray, List.set_cons_succ, List.set_cons_zero]
  refine ⟨fun j w1 hC => by exact Chn.upon_pure hC (fun F hF => by (go_simp <;> exact hF)), ?_⟩
  simp only [Act.put, List.setIfInBounds_toArray, List.set_cons_succ, List.set_cons_zero]
  refine ⟨fun j w1 hC => by exact Chn.upon_pure hC (fun F hF => by (go_simp <;> exact hF)), ?_⟩
  simp only [Act.put, List.setIfInBounds_toArray, List.set_cons_succ, List.set_cons_zero]
  refine ⟨fun j w1 hC => by exact Chn.upon_pure hC (fun F hF => by (go_simp <;> exact hF)), ?_⟩
  simp only [Act.put, List.setIfInBounds_toArray, List.set_cons_succ, List.set_cons_zero]
  refine ⟨fun j w1 hC => by have hq := at_i hC.1 2 (.int .i64 i.rd) (by decide) rfl; exact Chn.upon_pure hC (fun F hF => by (go_simp <;> exact hF)), ?_⟩
  simp only [Act.put, List.setIfInBounds_toArray, List.set_cons_succ, List.set_cons_zero]
  refine ⟨fun w1 hC => by exact Chn.upon_call (sx_c g ⟨i, c, k, e⟩ i.rd w1 hC.1) (fun e2 w2 hh => ⟨by rw [hh.1]; show _ = Ending.returned (.int .u64 X); rw [← hX], hC.same rfl hh.2⟩) (fun F hF => by (go_simp <;> exact hF)), ?_⟩
  simp only [Act.put, List.setIfInBounds_toArray, List.set_cons_succ, List.set_cons_zero]
  refine ⟨fun j w1 hC => by exact Chn.upon_pure hC (fun F hF => by (go_simp <;> exact hF)), ?_⟩
  simp only [Act.put, List.setIfInBounds_toArray, List.set_cons_succ, List.set_cons_zero]
  refine ⟨fun j w1 hC => by exact Chn.upon_pure hC (fun F hF => by (go_simp <;> exact hF)), ?_⟩
  simp only [Act.put, List.setIfInBounds_toArray, List.set_cons_succ, List.set_cons_zero]
  refine ⟨fun j w1 hC => by exact Chn.upon_pure hC (fun F hF => by (go_simp <;> exact hF)), ?_⟩
  simp only [Act.put, List.setIfInBounds_toArray, List.set_cons_succ, List.set_cons_zero]
  refine ⟨fun j w1 hC => by exact Chn.upon_pure hC (fun F hF => by (go_simp <;> exact hF)), ?_⟩
  simp only [Act.put, List.setIfInBounds_toArray, List.set_cons_succ, List.set_cons_zero]
  refine ⟨fun j w1 hC => by exact Chn.upon_pure hC (fun F hF => by (go_simp <;> exact hF)), ?_⟩
  simp only [Act.put, List.setIfInBounds_toArray, List.set_cons_succ, List.set_cons_zero]
  refine ⟨fun j w1 hC => by have hq := at_i hC.1 14 (.bool i.not) (by decide) rfl; exact Chn.upon_pure hC (fun F hF => by (go_simp <;> exact hF)), ?_⟩
  simp only [Act.put, List.setIfInBounds_toArray, List.set_cons_succ, List.set_cons_zero]
  refine ⟨fun j w1 hC => by exact Chn.upon_pure hC (fun F hF => by (go_simp <;> exact hF)), ?_⟩
  simp only [Act.put, List.setIfInBounds_toArray, List.set_cons_succ, List.set_cons_zero]
  refine ⟨fun w1 hC => by exact Chn.upon_call (jump_c g i c k e w1 hC.1 _ a m b ha hm hb) (fun e2 w2 hh => ⟨hh.1, hC.next hh.2.1 hh.2.2⟩) (fun F hF => by (go_simp <;> exact hF)), ?_⟩
  simp only [Act.put, List.setIfInBounds_toArray, List.set_cons_succ, List.set_cons_zero]
  intro w2 hC
  go_wp2
  first | go_end0 | ((try simp only [Exit.inBlock, Exit.then]); refine bodyPost_ret (results_none rfl _ _ _) rfl ?_)
  exact ⟨rfl, hC⟩
set_option maxRecDepth 4000 in
set_option maxHeartbeats 2000000 in
theorem branchBit_c (g : Nat) (i : Ins) (c : Cor) (k : Gt) (e : Int) (w : World) (h : w.heap[g]? = some (.cells (Stp.cells ⟨i, c, k, e⟩) 58)) (X Y : Int) (hX : xV c i.rd = X) (h0 : 0 ≤ i.amount) (h63 : i.amount ≤ 63) (hY : X / 2 ^ i.amount.toNat = Y) (a m b : Int) (ha : IntKind.u64.wrap (c.pc - 4) = a) (hm : i.imm % 18446744073709551616 = m) (hb : (a + m) % 18446744073709551616 = b) : Calls Tryz.prog 140 #[.pointer (some ⟨g, 0, none⟩)] w fun e2 w' => e2 = .returned (.tuple #[]) ∧ w'.heap[g]? = some (.cells (Stp.cells ⟨i, jumpV c ((bits .and .u64 Y 1 == 1) == i.not) b, k, e⟩) 58) ∧ But g w w' := by
  go_enter Tryz.func140, Tryz.ntmps140
  go_upto_region 0 with fail
  refine Chn.wp_region_chain (Ph g i (fun _ => c) k e w) [6] [(.pointer (some ⟨g, 0, none⟩)), (.pointer (some ⟨g, 0, none⟩)), (.pointer (some ⟨g, 0, none⟩)), (.pointer (some ⟨g, 0, none⟩)), (.pointer (some ⟨g, 2, none⟩)), (.int .i64 i.rd), (.int .u64 X), (.pointer (some ⟨g, 0, none⟩)), (.pointer (some ⟨g, 0, none⟩)), (.pointer (some ⟨g, 0, none⟩)), (.pointer (some ⟨g, 8, none⟩)), (.int .i64 i.amount), (.int .u64 Y), (.int .u64 (bits .and .u64 Y 1)), (.bool (bits .and .u64 Y 1 == 1)), (.bool (bits .and .u64 Y 1 == 1))] (by kernel_rfl) (by kernel_rfl) (by kernel_rfl) (by kernel_rfl) (ph_start h) ?_
  refine ⟨fun j w1 hC => by exact Chn.upon_pure hC (fun F hF => by (go_simp <;> exact hF)), ?_⟩
  simp only [Act.put, List.setIfInBounds_toArray, List.set_cons_succ, List.set_cons_zero]
  refine ⟨fun j w1 hC => by exact Chn.upon_pure hC (fun F hF => by (go_simp <;> exact hF)), ?_⟩
  simp only [Act.put, List.setIfInBounds_toArray, List.set_cons_succ, List.set_cons_zero]
  refine ⟨fun j w1 hC => by exact Chn.upon_pure hC (fun F hF => by (go_simp <;> exact hF)), ?_⟩
  simp only [Act.put, List.setIfInBounds_toArray, List.set_cons_succ, List.set_cons_zero]
  refine ⟨fun j w1 hC => by exact Chn.upon_pure hC (fun F hF => by (go_simp <;> exact hF)), ?_⟩
  simp only [Act.put, List.setIfInBounds_toArray, List.set_cons_succ, List.set_cons_zero]
  refine ⟨fun j w1 hC => by exact Chn.upon_pure hC (fun F hF => by (go_simp <;> exact hF)), ?_⟩
  simp only [Act.put, List.setIfInBounds_toArray, List.set_cons_succ, List.set_cons_zero]
  refine ⟨fun j w1 hC => by have hq := at_i hC.1 2 (.int .i64 i.rd) (by decide) rfl; exact Chn.upon_pure hC (fun F hF => by (go_simp <;> exact hF)), ?_⟩
  simp only [Act.put, List.setIfInBounds_toArray, List.set_cons_succ, List.set_cons_zero]
  refine ⟨fun w1 hC => by exact Chn.upon_call (sx_c g ⟨i, c, k, e⟩ i.rd w1 hC.1) (fun e2 w2 hh => ⟨by rw [hh.1]; show _ = Ending.returned (.int .u64 X); rw [← hX], hC.same rfl hh.2⟩) (fun F hF => by (go_simp <;> exact hF)), ?_⟩
  simp only [Act.put, List.setIfInBounds_toArray, List.set_cons_succ, List.set_cons_zero]
  refine ⟨fun j w1 hC => by exact Chn.upon_pure hC (fun F hF => by (go_simp <;> exact hF)), ?_⟩
  simp only [Act.put, List.setIfInBounds_toArray, List.set_cons_succ, List.set_cons_zero]
  refine ⟨fun j w1 hC => by exact Chn.upon_pure hC (fun F hF => by (go_simp <;> exact hF)), ?_⟩
  simp only [Act.put, List.setIfInBounds_toArray, List.set_cons_succ, List.set_cons_zero]
  refine ⟨fun j w1 hC => by exact Chn.upon_pure hC (fun F hF => by (go_simp <;> exact hF)), ?_⟩
  simp only [Act.put, List.setIfInBounds_toArray, List.set_cons_succ, List.set_cons_zero]
  refine ⟨fun j w1 hC => by exact Chn.upon_pure hC (fun F hF => by (go_simp <;> exact hF)), ?_⟩
  simp only [Act.put, List.setIfInBounds_toArray, List.set_cons_succ, List.set_cons_zero]
  refine ⟨fun j w1 hC => by have hq := at_i hC.1 8 (.int .i64 i.amount) (by decide) rfl; exact Chn.upon_pure hC (fun F hF => by (go_simp <;> exact hF)), ?_⟩
  simp only [Act.put, List.setIfInBounds_toArray, List.set_cons_succ, List.set_cons_zero]
  refine ⟨fun j w1 hC => by exact Chn.upon_pure hC (fun F hF => by (go_simp <;> exact hF)), ?_⟩
  simp only [Act.put, List.setIfInBounds_toArray, List.set_cons_succ, List.set_cons_zero]
  refine ⟨fun j w1 hC => by exact Chn.upon_pure hC (fun F hF => by (go_simp <;> exact hF)), ?_⟩
  simp only [Act.put, List.setIfInBounds_toArray, List.set_cons_succ, List.set_cons_zero]
  refine ⟨fun j w1 hC => by exact Chn.upon_pure hC (fun F hF => by (go_simp <;> exact hF)), ?_⟩
  simp only [Act.put, List.setIfInBounds_toArray, List.set_cons_succ, List.set_cons_zero]
  refine ⟨fun j w1 hC => by exact Chn.upon_pure hC (fun F hF => by (go_simp <;> exact hF)), ?_⟩
  simp only [Act.put, List.setIfInBounds_toArray, List.set_cons_succ, List.set_cons_zero]
  intro w2 hC
  have hs := hC.1
  have c14 := at_i hs 14 (.bool i.not) (by decide) rfl
  go_wp2_with (go_at_call 205; refine (jump_c g i c k e _ hs _ a m b ha hm hb).mono ?_; rintro e2 w3 ⟨rfl, hs3, hB3⟩; dsimp only)
  first | go_end0 | ((try simp only [Exit.inBlock, Exit.then]); refine bodyPost_ret (results_none rfl _ _ _) rfl ?_)
  exact ⟨rfl, hs3, hC.2.trans hB3⟩
set_option maxRecDepth 4000 in
set_option maxHeartbeats 2000000 in
theorem branchTo_L (g : Nat) (i : Ins) (c : Cor) (k : Gt) (e : Int) (w : World) (h : w.heap[g]? = some (.cells (Stp.cells ⟨i, c, k, e⟩) 58)) (h1 : i.sub = 1) (X : Int) (hX : xV c i.rn = X) (d : Cor) (hd : setXV c 30 c.pc = d) : Calls Tryz.prog 141 #[.pointer (some ⟨g, 0, none⟩)] w fun e2 w' => e2 = .returned (.tuple #[]) ∧ w'.heap[g]? = some (.cells (Stp.cells ⟨i, { d with pc := X }, k, e⟩) 58) ∧ But g w w' := by
  have c3 := at_i h 3 (.int .i64 i.rn) (by decide) rfl
  go_enter Tryz.func141, Tryz.ntmps141
  go_upto_region 1 with (go_at_call 184; refine (sx_c g _ _ _ h).mono ?_; rintro e2 w2 ⟨rfl, hB2⟩; dsimp only)
  have hs2 := keep_row h hB2
  have c1 := at_i hs2 1 (.int .i64 i.sub) (by decide) rfl
  have c33 := at_c hs2 33 (.int .u64 c.pc) (by decide) c.a33
  rw [h1] at c1
  go_upto_region 3 with (go_at_call 196; refine (setX_c g _ _ _ _ hs2).mono ?_; rintro e2 w3 ⟨rfl, hs3, hB3⟩; dsimp only)
  replace hs3 : w3.heap[g]? = some (.cells (Stp.cells ⟨i, d, k, e⟩) 58) := by rw [hs3]; show some (Obj.cells (Stp.cells ⟨i, setXV c 30 c.pc, k, e⟩) 58) = _; rw [hd]
  go_wp2_with ((with_reducible refine wpList_store_pc rfl _ _ rfl g rfl _ _ rfl hs3 ?_); intro w4 hs hB; simp only [Act.put])
  first | go_end0 | ((try simp only [Exit.inBlock, Exit.then]); refine bodyPost_ret (results_none rfl _ _ _) rfl ?_)
  refine ⟨rfl, ?_, ((but_below hB2).trans hB3).trans hB⟩
  rw [← hX]
  exact hs
def pick1 (c d : Cor) : Nat → Cor
  | 0 => c
  | _ => d
set_option maxRecDepth 4000 in
set_option maxHeartbeats 2000000 in
theorem adr_N (g : Nat) (i : Ins) (c : Cor) (k : Gt) (e : Int) (w : World) (h : w.heap[g]? = some (.cells (Stp.cells ⟨i, c, k, e⟩) 58)) (h1 : (i.sub == 1) = false) (f m b : Int) (ha : IntKind.u64.wrap (c.pc - 4) = f) (hm : i.imm % 18446744073709551616 = m) (hb : (f + m) % 18446744073709551616 = b) : Calls Tryz.prog 136 #[.pointer (some ⟨g, 0, none⟩)] w fun e2 w' => e2 = .returned (.tuple #[]) ∧ w'.heap[g]? = some (.cells (Stp.cells ⟨i, setXV c i.rd b, k, e⟩) 58) ∧ But g w w' := by
  have c1 := at_i h 1 (.int .i64 i.sub) (by decide) rfl
  go_enter Tryz.func136, Tryz.ntmps136
  go_upto_region 3 with (go_at_call 204; refine (at_pc g i c k e _ _ h ha).mono ?_; rintro e2 w3 ⟨rfl, hw3⟩; obtain rfl := hw3.symm; dsimp only)
  refine Chn.wp_region_chain (Ph g i (pick1 c (setXV c i.rd b)) k e w) [14] [(.pointer (some ⟨g, 0, none⟩)), (.pointer (some ⟨g, 0, none⟩)), (.pointer (some ⟨g, 0, none⟩)), (.pointer (some ⟨g, 0, none⟩)), (.pointer (some ⟨g, 2, none⟩)), (.int .i64 i.rd), (.int .u64 f), (.pointer (some ⟨g, 0, none⟩)), (.pointer (some ⟨g, 0, none⟩)), (.pointer (some ⟨g, 0, none⟩)), (.pointer (some ⟨g, 6, none⟩)), (.int .i64 i.imm), (.int .u64 m), (.int .u64 b), (.tuple #[])] (by kernel_rfl) (by kernel_rfl) (by kernel_rfl) (by kernel_rfl) (ph_start h) ?_
  refine ⟨fun j w1 hC => by exact Chn.upon_pure hC (fun F hF => by (go_simp <;> exact hF)), ?_⟩
  simp only [Act.put, List.setIfInBounds_toArray, List.set_cons_succ, List.set_cons_zero]
  refine ⟨fun j w1 hC => by exact Chn.upon_pure hC (fun F hF => by (go_simp <;> exact hF)), ?_⟩
  simp only [Act.put, List.setIfInBounds_toArray, List.set_cons_succ, List.set_cons_zero]
  refine ⟨fun j w1 hC => by exact Chn.upon_pure hC (fun F hF => by (go_simp <;> exact hF)), ?_⟩
  simp only [Act.put, List.setIfInBounds_toArray, List.set_cons_succ, List.set_cons_zero]
  refine ⟨fun j w1 hC => by exact Chn.upon_pure hC (fun F hF => by (go_simp <;> exact hF)), ?_⟩
  simp only [Act.put, List.setIfInBounds_toArray, List.set_cons_succ, List.set_cons_zero]
  refine ⟨fun j w1 hC => by exact Chn.upon_pure hC (fun F hF => by (go_simp <;> exact hF)), ?_⟩
  simp only [Act.put, List.setIfInBounds_toArray, List.set_cons_succ, List.set_cons_zero]
  refine ⟨fun j w1 hC => by have hq := at_i hC.1 2 (.int .i64 i.rd) (by decide) rfl; exact Chn.upon_pure hC (fun F hF => by (go_simp <;> exact hF)), ?_⟩
  simp only [Act.put, List.setIfInBounds_toArray, List.set_cons_succ, List.set_cons_zero]
  refine ⟨fun j w1 hC => by exact Chn.upon_pure hC (fun F hF => by (go_simp <;> exact hF)), ?_⟩
  simp only [Act.put, List.setIfInBounds_toArray, List.set_cons_succ, List.set_cons_zero]
  refine ⟨fun j w1 hC => by exact Chn.upon_pure hC (fun F hF => by (go_simp <;> exact hF)), ?_⟩
  simp only [Act.put, List.setIfInBounds_toArray, List.set_cons_succ, List.set_cons_zero]
  refine ⟨fun j w1 hC => by exact Chn.upon_pure hC (fun F hF => by (go_simp <;> exact hF)), ?_⟩
  simp only [Act.put, List.setIfInBounds_toArray, List.set_cons_succ, List.set_cons_zero]
  refine ⟨fun j w1 hC => by exact Chn.upon_pure hC (fun F hF => by (go_simp <;> exact hF)), ?_⟩
  simp only [Act.put, List.setIfInBounds_toArray, List.set_cons_succ, List.set_cons_zero]
  refine ⟨fun j w1 hC => by exact Chn.upon_pure hC (fun F hF => by (go_simp <;> exact hF)), ?_⟩
  simp only [Act.put, List.setIfInBounds_toArray, List.set_cons_succ, List.set_cons_zero]
  refine ⟨fun j w1 hC => by have hq := at_i hC.1 6 (.int .i64 i.imm) (by decide) rfl; exact Chn.upon_pure hC (fun F hF => by (go_simp <;> exact hF)), ?_⟩
  simp only [Act.put, List.setIfInBounds_toArray, List.set_cons_succ, List.set_cons_zero]
  refine ⟨fun j w1 hC => by exact Chn.upon_int hC (IntKind.u64.wrap i.imm) (by rw [wrapU]; exact hm) (fun F hF => by (go_simp <;> exact hF)), ?_⟩
  simp only [Act.put, List.setIfInBounds_toArray, List.set_cons_succ, List.set_cons_zero]
  refine ⟨fun j w1 hC => by exact Chn.upon_int hC (IntKind.u64.wrap (f + m)) (by rw [wrapU]; exact hb) (fun F hF => by (go_simp <;> exact hF)), ?_⟩
  simp only [Act.put, List.setIfInBounds_toArray, List.set_cons_succ, List.set_cons_zero]
  refine ⟨fun w1 hC => by exact Chn.upon_call (setX_c g ⟨i, c, k, e⟩ i.rd b w1 hC.1) (fun e2 w2 hh => ⟨hh.1, hC.next hh.2.1 hh.2.2⟩) (fun F hF => by (go_simp <;> exact hF)), ?_⟩
  simp only [Act.put, List.setIfInBounds_toArray, List.set_cons_succ, List.set_cons_zero]
  intro w2 hC
  go_wp2
  first | go_end0 | ((try simp only [Exit.inBlock, Exit.then]); refine bodyPost_ret (results_none rfl _ _ _) rfl ?_)
  exact ⟨rfl, hC⟩
set_option maxRecDepth 4000 in
set_option maxHeartbeats 2000000 in
theorem adr_P (g : Nat) (i : Ins) (c : Cor) (k : Gt) (e : Int) (w : World) (h : w.heap[g]? = some (.cells (Stp.cells ⟨i, c, k, e⟩) 58)) (h1 : i.sub = 1) (a f m b : Int) (ha : IntKind.u64.wrap (c.pc - 4) = a) (hf : bits .andNot .u64 a 4095 = f) (hm : i.imm % 18446744073709551616 = m) (hb : (f + m) % 18446744073709551616 = b) : Calls Tryz.prog 136 #[.pointer (some ⟨g, 0, none⟩)] w fun e2 w' => e2 = .returned (.tuple #[]) ∧ w'.heap[g]? = some (.cells (Stp.cells ⟨i, setXV c i.rd b, k, e⟩) 58) ∧ But g w w' := by
  have c1 := at_i h 1 (.int .i64 i.sub) (by decide) rfl
  rw [h1] at c1
  go_enter Tryz.func136, Tryz.ntmps136
  go_upto_region 3 with (go_at_call 204; refine (at_pc g i c k e _ _ h ha).mono ?_; rintro e2 w3 ⟨rfl, hw3⟩; obtain rfl := hw3.symm; dsimp only)
  refine Chn.wp_region_chain (Ph g i (pick1 c (setXV c i.rd b)) k e w) [14] [(.pointer (some ⟨g, 0, none⟩)), (.pointer (some ⟨g, 0, none⟩)), (.pointer (some ⟨g, 0, none⟩)), (.pointer (some ⟨g, 0, none⟩)), (.pointer (some ⟨g, 2, none⟩)), (.int .i64 i.rd), (.int .u64 f), (.pointer (some ⟨g, 0, none⟩)), (.pointer (some ⟨g, 0, none⟩)), (.pointer (some ⟨g, 0, none⟩)), (.pointer (some ⟨g, 6, none⟩)), (.int .i64 i.imm), (.int .u64 m), (.int .u64 b), (.tuple #[])] (by kernel_rfl) (by kernel_rfl) (by kernel_rfl) (by kernel_rfl) (ph_start h) ?_
  refine ⟨fun j w1 hC => by exact Chn.upon_pure hC (fun F hF => by (go_simp <;> exact hF)), ?_⟩
  simp only [Act.put, List.setIfInBounds_toArray, List.set_cons_succ, List.set_cons_zero]
  refine ⟨fun j w1 hC => by exact Chn.upon_pure hC (fun F hF => by (go_simp <;> exact hF)), ?_⟩
  simp only [Act.put, List.setIfInBounds_toArray, List.set_cons_succ, List.set_cons_zero]
  refine ⟨fun j w1 hC => by exact Chn.upon_pure hC (fun F hF => by (go_simp <;> exact hF)), ?_⟩
  simp only [Act.put, List.setIfInBounds_toArray, List.set_cons_succ, List.set_cons_zero]
  refine ⟨fun j w1 hC => by exact Chn.upon_pure hC (fun F hF => by (go_simp <;> exact hF)), ?_⟩
  simp only [Act.put, List.setIfInBounds_toArray, List.set_cons_succ, List.set_cons_zero]
  refine ⟨fun j w1 hC => by exact Chn.upon_pure hC (fun F hF => by (go_simp <;> exact hF)), ?_⟩
  simp only [Act.put, List.setIfInBounds_toArray, List.set_cons_succ, List.set_cons_zero]
  refine ⟨fun j w1 hC => by have hq := at_i hC.1 2 (.int .i64 i.rd) (by decide) rfl; exact Chn.upon_pure hC (fun F hF => by (go_simp <;> exact hF)), ?_⟩
  simp only [Act.put, List.setIfInBounds_toArray, List.set_cons_succ, List.set_cons_zero]
  refine ⟨fun j w1 hC => by exact Chn.upon_pure hC (fun F hF => by (go_simp <;> exact hF)), ?_⟩
  simp only [Act.put, List.setIfInBounds_toArray, List.set_cons_succ, List.set_cons_zero]
  refine ⟨fun j w1 hC => by exact Chn.upon_pure hC (fun F hF => by (go_simp <;> exact hF)), ?_⟩
  simp only [Act.put, List.setIfInBounds_toArray, List.set_cons_succ, List.set_cons_zero]
  refine ⟨fun j w1 hC => by exact Chn.upon_pure hC (fun F hF => by (go_simp <;> exact hF)), ?_⟩
  simp only [Act.put, List.setIfInBounds_toArray, List.set_cons_succ, List.set_cons_zero]
  refine ⟨fun j w1 hC => by exact Chn.upon_pure hC (fun F hF => by (go_simp <;> exact hF)), ?_⟩
  simp only [Act.put, List.setIfInBounds_toArray, List.set_cons_succ, List.set_cons_zero]
  refine ⟨fun j w1 hC => by exact Chn.upon_pure hC (fun F hF => by (go_simp <;> exact hF)), ?_⟩
  simp only [Act.put, List.setIfInBounds_toArray, List.set_cons_succ, List.set_cons_zero]
  refine ⟨fun j w1 hC => by have hq := at_i hC.1 6 (.int .i64 i.imm) (by decide) rfl; exact Chn.upon_pure hC (fun F hF => by (go_simp <;> exact hF)), ?_⟩
  simp only [Act.put, List.setIfInBounds_toArray, List.set_cons_succ, List.set_cons_zero]
  refine ⟨fun j w1 hC => by exact Chn.upon_int hC (IntKind.u64.wrap i.imm) (by rw [wrapU]; exact hm) (fun F hF => by (go_simp <;> exact hF)), ?_⟩
  simp only [Act.put, List.setIfInBounds_toArray, List.set_cons_succ, List.set_cons_zero]
  refine ⟨fun j w1 hC => by exact Chn.upon_int hC (IntKind.u64.wrap (f + m)) (by rw [wrapU]; exact hb) (fun F hF => by (go_simp <;> exact hF)), ?_⟩
  simp only [Act.put, List.setIfInBounds_toArray, List.set_cons_succ, List.set_cons_zero]
  refine ⟨fun w1 hC => by exact Chn.upon_call (setX_c g ⟨i, c, k, e⟩ i.rd b w1 hC.1) (fun e2 w2 hh => ⟨hh.1, hC.next hh.2.1 hh.2.2⟩) (fun F hF => by (go_simp <;> exact hF)), ?_⟩
  simp only [Act.put, List.setIfInBounds_toArray, List.set_cons_succ, List.set_cons_zero]
  intro w2 hC
  go_wp2
  first | go_end0 | ((try simp only [Exit.inBlock, Exit.then]); refine bodyPost_ret (results_none rfl _ _ _) rfl ?_)
  exact ⟨rfl, hC⟩
end Go.Proofs.YtbjcdpmhmebjnaaGreat
/- What Signed and Ror of package bits, and of the document's own answer, give back, for all numbers: contracts. -/
namespace Go.Proofs.YtbjcdpmhmebjnaaGreat
open Go.RowKit

set_option maxHeartbeats 400000 in
set_option maxHeartbeats 400000 in
set_option maxHeartbeats 400000 in
theorem ror_c (v b m : Int) (hv : Hid (0 ≤ v ∧ v < 18446744073709551616)) (w : World) :
    Calls Tryz.prog 269 #[.int .u64 v, .int .i64 b, .int .i64 m] w fun e w' => e = .returned (.tuple #[.int .u64 (rorV v b m), .int .i64 (rorE v b m)]) ∧ ∃ n, w' = w.drewN n := by
  by_cases hb : inNumB m = true
  · obtain ⟨h1, h2⟩ := inNum_of hb
    by_cases h0 : 0 ≤ b
    · by_cases hf : fits64 v m = true
      · have hl : v ≤ lowF m := (fits64_low hv.out.1 h2).1 hf
        have hE := ror_walk hb h0 hf
        have hE2 := (ror_yes hb h0 hf).2
        replace hE := show Hid _ from hE
        replace hE2 := show Hid _ from hE2
        go_enter Tryz.func269, Tryz.ntmps269
        go_wp2_with (first | (go_at_call 246; refine (inNum_c _ _).mono ?_; rintro e w' ⟨rfl, rfl⟩) | (go_at_call 233; refine (low_c _ (by omega) _).mono ?_; rintro e w' ⟨rfl, rfl⟩) | (go_at_call 235; refine (turn_c _ _ _ hv h0 h1 h2 _).mono ?_; rintro e w' ⟨rfl, n, rfl⟩))
        go_ret2
        exact ⟨ret_two hE.out hE2.out.symm, _, rfl⟩
      · have hl : lowF m < v := Int.not_le.mp fun h => hf ((fits64_low hv.out.1 h2).2 h)
        have hE := ror_no hb h0 (by simpa using hf)
        replace hE := show Hid _ from hE
        go_enter Tryz.func269, Tryz.ntmps269
        go_wp2_with (first | (go_at_call 246; refine (inNum_c _ _).mono ?_; rintro e w' ⟨rfl, rfl⟩) | (go_at_call 233; refine (low_c _ (by omega) _).mono ?_; rintro e w' ⟨rfl, rfl⟩))
        go_ret2
        exact ⟨ret_two hE.out.1.symm hE.out.2.symm, 0, rfl⟩
    · have hE := ror_arg (value := v) (b := b) (m := m) (by omega)
      replace hE := show Hid _ from hE
      go_enter Tryz.func269, Tryz.ntmps269
      go_wp2_with (first | (go_at_call 246; refine (inNum_c _ _).mono ?_; rintro e w' ⟨rfl, rfl⟩))
      go_ret2
      exact ⟨ret_two hE.out.1.symm hE.out.2.symm, 0, rfl⟩
  · have hE := ror_arg (value := v) (b := b) (m := m) (by unfold inNumB at hb; rw [decide_eq_true_eq] at hb; omega)
    replace hE := show Hid _ from hE
    have hb : inNumB m = false := by simpa using hb
    go_enter Tryz.func269, Tryz.ntmps269
    go_wp2_with (first | (go_at_call 246; refine (inNum_c _ _).mono ?_; rintro e w' ⟨rfl, rfl⟩))
    all_goals (go_ret2; exact ⟨ret_two hE.out.1.symm hE.out.2.symm, 0, rfl⟩)

end Go.Proofs.YtbjcdpmhmebjnaaGreat
/- What package alu's small functions and the methods of its numbers give back: contracts, for all numbers. -/
namespace Go.Proofs.YtbjcdpmhmebjnaaGreat
open Go.RowKit

/-- What is reckoned of two numbers, by its kind. -/
def reckonV (k a b : Int) : Int :=
  if k = 1 then (a + b) % 18446744073709551616 else if k = 2 then (a - b) % 18446744073709551616
  else if k = 3 then bits .and .u64 a b else if k = 4 then bits .or .u64 a b else if k = 5 then bits .xor .u64 a b
  else if k = 6 then (a * b) % 18446744073709551616 else if k = 7 then (if b = 0 then 0 else a / b)
  else if k = 8 then (if b = 0 then 0 else (wrap64 a).tdiv (wrap64 b) % 18446744073709551616)
  else if k = 9 then a * 2 ^ (b % 64).toNat % 18446744073709551616 else if k = 10 then a / 2 ^ (b % 64).toNat
  else if k = 11 then wrap64 a / 2 ^ (b % 64).toNat % 18446744073709551616 else if k = 12 then rorV a (b % 64) 64
  else if k = 13 then oneI (a == b) else if k = 14 then oneI (decide (a < b)) else if k = 15 then oneI (decide (wrap64 a < wrap64 b)) else 0
def kindB (k : Int) : Bool := decide (1 ≤ k ∧ k ≤ 15)
def kindE (k : Int) : Int := if kindB k = true then 0 else 1
def placeB (m : Int) : Bool := decide (0 ≤ m ∧ m ≤ 63)
theorem isPlace_c (m : Int) (w : World) :
    Calls Tryz.prog 236 #[.int .i64 m] w fun e w' => e = .returned (.bool (placeB m)) ∧ w' = w := by
  go_enter Tryz.func236, Tryz.ntmps236
  go_wp2
  all_goals (go_ret; refine ⟨ret_bool ?_, rfl⟩; unfold placeB; first | (rw [eq_comm, decide_eq_false_iff_not]; omega) | (rw [decide_eq_decide]; omega))
theorem m1 (a b : Int) (w : World) : Calls Tryz.prog 254 #[.int .u64 a, .int .u64 b] w fun e w' => e = .returned (.int .u64 (reckonV 1 a b)) ∧ Below w.heap.size w w' := by
  go_enter Tryz.func254, Tryz.ntmps254
  go_wp2
  go_ret
  exact ⟨ret_int (by simp only [reckonV, wrapU, reduceIte, Int.reduceEq]), Below.refl _ _⟩
theorem m2 (a b : Int) (w : World) : Calls Tryz.prog 255 #[.int .u64 a, .int .u64 b] w fun e w' => e = .returned (.int .u64 (reckonV 2 a b)) ∧ Below w.heap.size w w' := by
  go_enter Tryz.func255, Tryz.ntmps255
  go_wp2
  go_ret
  exact ⟨ret_int (by simp only [reckonV, wrapU, reduceIte, Int.reduceEq]), Below.refl _ _⟩
theorem m3 (a b : Int) (w : World) : Calls Tryz.prog 256 #[.int .u64 a, .int .u64 b] w fun e w' => e = .returned (.int .u64 (reckonV 3 a b)) ∧ Below w.heap.size w w' := by
  go_enter Tryz.func256, Tryz.ntmps256
  go_wp2
  go_ret
  exact ⟨ret_int (by simp only [reckonV, reduceIte, Int.reduceEq]), Below.refl _ _⟩
theorem m4 (a b : Int) (w : World) : Calls Tryz.prog 257 #[.int .u64 a, .int .u64 b] w fun e w' => e = .returned (.int .u64 (reckonV 4 a b)) ∧ Below w.heap.size w w' := by
  go_enter Tryz.func257, Tryz.ntmps257
  go_wp2
  go_ret
  exact ⟨ret_int (by simp only [reckonV, reduceIte, Int.reduceEq]), Below.refl _ _⟩
theorem m5 (a b : Int) (w : World) : Calls Tryz.prog 258 #[.int .u64 a, .int .u64 b] w fun e w' => e = .returned (.int .u64 (reckonV 5 a b)) ∧ Below w.heap.size w w' := by
  go_enter Tryz.func258, Tryz.ntmps258
  go_wp2
  go_ret
  exact ⟨ret_int (by simp only [reckonV, reduceIte, Int.reduceEq]), Below.refl _ _⟩
theorem m6 (a b : Int) (w : World) : Calls Tryz.prog 259 #[.int .u64 a, .int .u64 b] w fun e w' => e = .returned (.int .u64 (reckonV 6 a b)) ∧ Below w.heap.size w w' := by
  go_enter Tryz.func259, Tryz.ntmps259
  go_wp2
  go_ret
  exact ⟨ret_int (by simp only [reckonV, wrapU, reduceIte, Int.reduceEq]), Below.refl _ _⟩
theorem m7 (a b : Int) (ha : U64 a) (hb : U64 b) (w : World) : Calls Tryz.prog 260 #[.int .u64 a, .int .u64 b] w fun e w' => e = .returned (.int .u64 (reckonV 7 a b)) ∧ Below w.heap.size w w' := by
  by_cases h : b = 0
  · subst h
    go_enter Tryz.func260, Tryz.ntmps260
    go_wp2
    go_ret
    exact ⟨ret_int (by simp [reckonV]), Below.refl _ _⟩
  · have hE : Hid (IntKind.u64.wrap (a.tdiv b) = reckonV 7 a b) := by
      show _ = _
      simp only [reckonV, reduceIte, Int.reduceEq, if_neg h]
      rw [wrapU, Int.tdiv_eq_ediv_of_nonneg ha.1]
      have h1 : 0 ≤ a / b := Int.ediv_nonneg ha.1 hb.1
      have h2 : a / b ≤ a := Int.ediv_le_self _ ha.1
      have h3 := ha.2
      omega
    have h' : (b == 0) = false := by simpa using h
    clear ha hb
    go_enter Tryz.func260, Tryz.ntmps260
    go_wp2
    go_ret
    exact ⟨ret_int hE.out, Below.refl _ _⟩
theorem m8 (a b : Int) (hb : U64 b) (w : World) : Calls Tryz.prog 261 #[.int .u64 a, .int .u64 b] w fun e w' => e = .returned (.int .u64 (reckonV 8 a b)) ∧ Below w.heap.size w w' := by
  by_cases h : b = 0
  · subst h
    go_enter Tryz.func261, Tryz.ntmps261
    go_wp2
    go_ret
    exact ⟨ret_int (by simp [reckonV]), Below.refl _ _⟩
  · have hE : Hid (IntKind.u64.wrap (wrap64 ((wrap64 a).tdiv (wrap64 b))) = reckonV 8 a b) := by
      show _ = _
      simp only [reckonV, reduceIte, Int.reduceEq, if_neg h]
      rw [wrapU]
      generalize (wrap64 a).tdiv (wrap64 b) = x
      unfold wrap64
      omega
    have h' : (b == 0) = false := by simpa using h
    have h0 : wrap64 b ≠ 0 := by
      have := hb.1; have := hb.2
      unfold wrap64; omega
    have h0' : ¬ wrap64 b = 0 := h0
    clear hb
    go_enter Tryz.func261, Tryz.ntmps261
    go_wp2
    all_goals first | (go_ret; exact ⟨ret_int hE.out, Below.refl _ _⟩) | (exfalso; exact h0 (by assumption))
theorem m9 (a b : Int) (hb : U64 b) (w : World) : Calls Tryz.prog 262 #[.int .u64 a, .int .u64 b] w fun e w' => e = .returned (.int .u64 (reckonV 9 a b)) ∧ Below w.heap.size w w' := by
  have h0 : 0 ≤ b % 64 := by omega
  have h1 : b % 64 < 64 := by omega
  have h2 : 0 ≤ b := hb.1
  clear hb
  go_enter Tryz.func262, Tryz.ntmps262
  go_wp2
  go_ret
  exact ⟨ret_int (by simp only [reckonV, wrapU, reduceIte, Int.reduceEq]), Below.refl _ _⟩
theorem m10 (a b : Int) (hb : U64 b) (w : World) : Calls Tryz.prog 263 #[.int .u64 a, .int .u64 b] w fun e w' => e = .returned (.int .u64 (reckonV 10 a b)) ∧ Below w.heap.size w w' := by
  have h0 : 0 ≤ b % 64 := by omega
  have h1 : b % 64 < 64 := by omega
  have h2 : 0 ≤ b := hb.1
  clear hb
  go_enter Tryz.func263, Tryz.ntmps263
  go_wp2
  go_ret
  exact ⟨ret_int (by simp only [reckonV, reduceIte, Int.reduceEq]), Below.refl _ _⟩
theorem m11 (a b : Int) (hb : U64 b) (w : World) : Calls Tryz.prog 264 #[.int .u64 a, .int .u64 b] w fun e w' => e = .returned (.int .u64 (reckonV 11 a b)) ∧ Below w.heap.size w w' := by
  have h0 : 0 ≤ b % 64 := by omega
  have h1 : b % 64 < 64 := by omega
  have h2 : 0 ≤ b := hb.1
  clear hb
  go_enter Tryz.func264, Tryz.ntmps264
  go_wp2
  go_ret
  exact ⟨ret_int (by simp only [reckonV, wrapU, reduceIte, Int.reduceEq]), Below.refl _ _⟩
theorem m12 (a b : Int) (ha : U64 a) (hb : U64 b) (w : World) : Calls Tryz.prog 265 #[.int .u64 a, .int .u64 b] w fun e w' => e = .returned (.int .u64 (reckonV 12 a b)) ∧ Below w.heap.size w w' := by
  have hh : Hid (0 ≤ a ∧ a < 18446744073709551616) := ha
  have h0 : 0 ≤ b % 64 := by omega
  have h1 : b % 64 < 64 := by omega
  have h2 : 0 ≤ b := hb.1
  have hE : Hid (rorV a (b % 64) 64 = reckonV 12 a b) := by show _ = _; simp only [reckonV, reduceIte, Int.reduceEq]
  clear hb ha
  go_enter Tryz.func265, Tryz.ntmps265
  go_wp2_with fail
  refine (ror_c _ _ _ hh _).mono ?_
  rintro e w' ⟨rfl, n, rfl⟩
  go_wp2
  go_ret
  exact ⟨ret_int hE.out, r_below_drewN (Below.refl _ _)⟩
theorem m13 (a b : Int) (w : World) : Calls Tryz.prog 266 #[.int .u64 a, .int .u64 b] w fun e w' => e = .returned (.int .u64 (reckonV 13 a b)) ∧ Below w.heap.size w w' := by
  go_enter Tryz.func266, Tryz.ntmps266
  go_wp2_with (go_at_call 250; refine (oneIf_c _ _).mono ?_; rintro e w' ⟨rfl, rfl⟩)
  go_ret
  exact ⟨ret_int (by simp only [reckonV, reduceIte, Int.reduceEq]), Below.refl _ _⟩
theorem m14 (a b : Int) (w : World) : Calls Tryz.prog 267 #[.int .u64 a, .int .u64 b] w fun e w' => e = .returned (.int .u64 (reckonV 14 a b)) ∧ Below w.heap.size w w' := by
  go_enter Tryz.func267, Tryz.ntmps267
  go_wp2_with (go_at_call 250; refine (oneIf_c _ _).mono ?_; rintro e w' ⟨rfl, rfl⟩)
  go_ret
  exact ⟨ret_int (by simp only [reckonV, reduceIte, Int.reduceEq]), Below.refl _ _⟩
theorem m15 (a b : Int) (w : World) : Calls Tryz.prog 268 #[.int .u64 a, .int .u64 b] w fun e w' => e = .returned (.int .u64 (reckonV 15 a b)) ∧ Below w.heap.size w w' := by
  go_enter Tryz.func268, Tryz.ntmps268
  go_wp2_with (go_at_call 250; refine (oneIf_c _ _).mono ?_; rintro e w' ⟨rfl, rfl⟩)
  go_ret
  exact ⟨ret_int (by simp only [reckonV, reduceIte, Int.reduceEq]), Below.refl _ _⟩
end Go.Proofs.YtbjcdpmhmebjnaaGreat
/- Reckon of package alu: the ways are found by their kinds, in an array of a call's own. -/
namespace Go.Proofs.YtbjcdpmhmebjnaaGreat
open Go.RowKit
def ways : Array Value := #[.nilFunc, .func (.func 254) #[] #[], .func (.func 255) #[] #[], .func (.func 256) #[] #[], .func (.func 257) #[] #[], .func (.func 258) #[] #[], .func (.func 259) #[] #[], .func (.func 260) #[] #[], .func (.func 261) #[] #[], .func (.func 262) #[] #[], .func (.func 263) #[] #[], .func (.func 264) #[] #[], .func (.func 265) #[] #[], .func (.func 266) #[] #[], .func (.func 267) #[] #[], .func (.func 268) #[] #[]]
theorem ways_info : (Tryz.prog.info? 197).map (·.size) = some ways.size := by kernel_rfl
theorem ways_one : ways.all (·.oneCell') = true := by simp [ways, Value.oneCell']
set_option maxHeartbeats 1000000 in
theorem way_c (k : Int) (v : Value) (h0 : 0 ≤ k) (h1 : k ≤ 15) (hv : ways[k.toNat]? = some v) (w : World) :
    Calls Tryz.prog 253 #[.int .i64 k] w fun e w' => e = .returned v ∧ Below w.heap.size w w' := by
  have H := has_none w
  go_enter Tryz.func253, Tryz.ntmps253
  go_wp2_with (first | ((with_reducible refine wpList_store_new H rfl 197 _ _ rfl ways rfl rfl ways_info ?_ ways_one ?_); (focus rfl); intro w2 H; try simp only [Act.put]) | ((with_reducible refine wpList_load_cell rfl 193 _ rfl _ _ rfl _ (H.at List.mem_cons_self _ _ hv) (agg47 _) ?_); simp only [Act.put, List.setIfInBounds_toArray, List.set_cons_succ, List.set_cons_zero]))
  go_ret
  exact ⟨rfl, H.below⟩
end Go.Proofs.YtbjcdpmhmebjnaaGreat
/- Plain facts on numbers that are shifted, turned, divided and told apart: no Go text is named here. -/
namespace Go.Proofs.YtbjcdpmhmebjnaaGreat
open Go.RowKit

theorem pow_nat (k : Nat) : ((2 ^ k : Nat) : Int) = (2 : Int) ^ k := by simp
theorem pow_split {j k : Nat} (h : j + k = 64) : (2 : Int) ^ j * 2 ^ k = 18446744073709551616 := by
  rw [← Int.pow_add, h]; decide
theorem div_div (a : Int) (k : Nat) : a / 2 ^ k / 2 = a / 2 ^ (k + 1) := by
  rw [Int.pow_succ, Int.ediv_ediv_of_nonneg (by have := pow_pos k; omega)]
theorem div_lt {a : Int} {k : Nat} (ha : U64 a) : 0 ≤ a / 2 ^ k ∧ a / 2 ^ k < 18446744073709551616 := by
  have hp := pow_pos k
  have h1 : a / 2 ^ k ≤ a := Int.ediv_le_self _ ha.1
  exact ⟨Int.ediv_nonneg ha.1 (by omega), by have := ha.2; omega⟩
theorem div_lt' {a : Int} {j k : Nat} (ha : U64 a) (h : j + k = 64) : a / 2 ^ k < 2 ^ j := by
  have hp := pow_pos k
  refine Int.ediv_lt_of_lt_mul hp ?_
  rw [pow_split h]
  exact ha.2
/-! ### Turned to the right -/
def rolV (a : Int) (k : Nat) : Int := a / 2 ^ k + a % 2 ^ k * 2 ^ (64 - k)
theorem rol_in {a : Int} {k : Nat} (ha : U64 a) (hk : k ≤ 64) : U64 (rolV a k) := by
  have hp := pow_pos k
  have hq := pow_pos (64 - k)
  have h1 := div_lt' (j := 64 - k) (k := k) ha (by omega)
  have h2 := (div_lt (k := k) ha).1
  have h3 : 0 ≤ a % 2 ^ k := Int.emod_nonneg _ (by omega)
  have h4 : a % 2 ^ k < 2 ^ k := Int.emod_lt_of_pos _ hp
  have h5 := pow_split (j := k) (k := 64 - k) (by omega)
  have h6 : (a % 2 ^ k + 1) * 2 ^ (64 - k) ≤ 2 ^ k * 2 ^ (64 - k) := Int.mul_le_mul_of_nonneg_right (by omega) (by omega)
  rw [Int.add_mul, Int.one_mul] at h6
  have h7 : 0 ≤ a % 2 ^ k * 2 ^ (64 - k) := Int.mul_nonneg h3 (by omega)
  unfold rolV
  constructor <;> omega
theorem ror_num {a : Int} {k : Nat} (ha : U64 a) (hk : k < 64) : rorV a (k : Int) 64 = rolV a k := by
  have hf : fits64 a 64 = true := fits64_all ha
  rw [← ror_walk (show inNumB 64 = true by decide) (by omega) hf]
  obtain ⟨A, rfl⟩ := Int.eq_ofNat_of_zero_le ha.1
  have hA : A < 2 ^ 64 := by have := ha.2; have : (2 : Nat) ^ 64 = 18446744073709551616 := by decide
                             omega
  unfold turnF turnN rolV
  rw [Int.toNat_natCast, Int.toNat_natCast, show (64 : Int).toNat = 64 from rfl, Nat.mod_eq_of_lt hk]
  have e : (2 : Nat) ^ 64 = 2 ^ k * 2 ^ (64 - k) := by rw [← Nat.pow_add]; congr 1; omega
  have h1 : A / 2 ^ k < 2 ^ (64 - k) := by
    rw [Nat.div_lt_iff_lt_mul (Nat.two_pow_pos k), Nat.mul_comm, ← e]; exact hA
  have h2 : A * 2 ^ (64 - k) % 2 ^ 64 = A % 2 ^ k * 2 ^ (64 - k) := by
    rw [e, Nat.mul_mod_mul_right]
  have h3 : A / 2 ^ k ||| A % 2 ^ k * 2 ^ (64 - k) = A / 2 ^ k + A % 2 ^ k * 2 ^ (64 - k) := by
    rw [Nat.or_comm, Nat.mul_comm, ← Nat.two_pow_add_eq_or_of_lt h1, Nat.add_comm]
  have h4 : A / 2 ^ k + A % 2 ^ k * 2 ^ (64 - k) < 2 ^ 64 := by
    have := (rol_in ha (by omega : k ≤ 64)).2
    unfold rolV at this
    have e1 : ((A / 2 ^ k + A % 2 ^ k * 2 ^ (64 - k) : Nat) : Int) = (A : Int) / 2 ^ k + (A : Int) % 2 ^ k * 2 ^ (64 - k) := by simp
    have : (2 : Nat) ^ 64 = 18446744073709551616 := by decide
    omega
  rw [h2, h3, Nat.and_two_pow_sub_one_eq_mod, Nat.mod_eq_of_lt h4]
  simp
theorem rol_zero {a : Int} : rolV a 0 = a := by
  unfold rolV
  simp
theorem rol_step {a : Int} {k : Nat} (ha : U64 a) (hk : k < 63) : IntKind.u64.wrap (IntKind.u64.wrap ((rolV a k).tdiv 2) + rolV a k % 2 * 9223372036854775808) = rolV a (k + 1) := by
  have h0 := rol_in (k := k) ha (by omega)
  have h1 := rol_in (k := k + 1) ha (by omega)
  have e : rolV a (k + 1) = rolV a k / 2 + rolV a k % 2 * 9223372036854775808 := by
    unfold rolV
    have e1 : (2 : Int) ^ (64 - k) = 2 ^ (63 - k) * 2 := by rw [← Int.pow_succ]; congr 1; omega
    have e2 : 64 - (k + 1) = 63 - k := by omega
    have e3 : (2 : Int) ^ k * 2 ^ (63 - k) = 9223372036854775808 := by
      rw [← Int.pow_add, show k + (63 - k) = 63 by omega]; decide
    rw [mod_step, ← div_div, e1, e2, Int.add_mul, Int.mul_assoc, e3, ← Int.mul_assoc]
    generalize a % 2 ^ k * 2 ^ (63 - k) = y
    generalize a / 2 ^ k = x
    omega
  rw [wrapU, wrapU, Int.tdiv_eq_ediv_of_nonneg h0.1, e]
  have := h0.1; have := h0.2; have := h1.1; have := h1.2
  rw [e] at this
  omega
/-! ### Shifted -/
theorem shr_step {a : Int} {k : Nat} (ha : U64 a) : IntKind.u64.wrap (IntKind.u64.wrap ((a / 2 ^ k).tdiv 2)) = a / 2 ^ (k + 1) := by
  have h0 := div_lt (k := k) ha
  have h1 := div_lt (k := k + 1) ha
  rw [Int.tdiv_eq_ediv_of_nonneg h0.1, div_div, wrapU, wrapU]
  omega
def sarV (a : Int) (k : Nat) : Int := wrap64 a / 2 ^ k % 18446744073709551616
theorem sar_pos {a : Int} {k : Nat} (ha : U64 a) (h : a < 9223372036854775808) : sarV a k = a / 2 ^ k := by
  have e : wrap64 a = a := by have := ha.1; unfold wrap64; omega
  have h0 := div_lt (k := k) ha
  unfold sarV
  rw [e]
  omega
theorem sar_neg {a : Int} {k : Nat} (ha : U64 a) (h : 9223372036854775808 ≤ a) : sarV a k = wrap64 a / 2 ^ k + 18446744073709551616 ∧ -9223372036854775808 ≤ wrap64 a / 2 ^ k ∧ wrap64 a / 2 ^ k < 0 := by
  have hp := pow_pos k
  have h1 : wrap64 a < 0 := by have := ha.2; unfold wrap64; omega
  have h2 : -9223372036854775808 ≤ wrap64 a := by have := ha.2; unfold wrap64; omega
  have h3 : wrap64 a / 2 ^ k < 0 := Int.ediv_neg_of_neg_of_pos h1 hp
  have h4 : -9223372036854775808 ≤ wrap64 a / 2 ^ k := by
    apply Int.le_ediv_of_mul_le hp
    have : (-9223372036854775808) * (2 : Int) ^ k ≤ -9223372036854775808 := by omega
    omega
  refine ⟨?_, h4, h3⟩
  unfold sarV
  omega
theorem sar_zero {a : Int} (ha : U64 a) : sarV a 0 = a := by
  unfold sarV
  simp only [Int.pow_zero, Int.ediv_one]
  have := ha.1; have := ha.2
  unfold wrap64; omega
theorem sar_step {a : Int} {k : Nat} (ha : U64 a) (h : 9223372036854775808 ≤ a) : IntKind.u64.wrap (IntKind.u64.wrap ((sarV a k).tdiv 2) + 9223372036854775808) = sarV a (k + 1) := by
  obtain ⟨e1, h1, h2⟩ := sar_neg (k := k) ha h
  obtain ⟨e2, h3, h4⟩ := sar_neg (k := k + 1) ha h
  rw [e1, e2, ← div_div, Int.tdiv_eq_ediv_of_nonneg (by omega), wrapU, wrapU]
  rw [← div_div] at h3 h4
  omega
theorem sar_in {a : Int} {k : Nat} : U64 (sarV a k) := by
  unfold sarV
  constructor <;> omega
def shlV (a : Int) (k : Nat) : Int := a * 2 ^ k % 18446744073709551616
theorem shl_zero {a : Int} (ha : U64 a) : shlV a 0 = a := by
  unfold shlV
  simp only [Int.pow_zero, Int.mul_one]
  have := ha.1; have := ha.2
  omega
theorem shl_step {a : Int} {k : Nat} : IntKind.u64.wrap (shlV a k + shlV a k) = shlV a (k + 1) := by
  unfold shlV
  rw [wrapU, Int.pow_succ, ← Int.mul_assoc]
  omega
/-! ### Divided, with signs -/
theorem sdiv_pp {a b : Int} (ha : U64 a) (hb : U64 b) (h1 : a < 9223372036854775808) (h2 : b < 9223372036854775808) (h0 : b ≠ 0) :
    IntKind.u64.wrap (a.tdiv b) = reckonV 8 a b := by
  have e1 : wrap64 a = a := by have := ha.1; unfold wrap64; omega
  have e2 : wrap64 b = b := by have := hb.1; unfold wrap64; omega
  simp only [reckonV, reduceIte, Int.reduceEq, if_neg h0, e1, e2, wrapU]
theorem sdiv_np {a b : Int} (ha : U64 a) (hb : U64 b) (h1 : 9223372036854775808 ≤ a) (h2 : b < 9223372036854775808) (h0 : b ≠ 0) :
    IntKind.u64.wrap (-(IntKind.u64.wrap ((IntKind.u64.wrap (-a)).tdiv b))) = reckonV 8 a b := by
  have e1 : wrap64 a = -(18446744073709551616 - a) := by have := ha.2; unfold wrap64; omega
  have e2 : wrap64 b = b := by have := hb.1; unfold wrap64; omega
  have e3 : IntKind.u64.wrap (-a) = 18446744073709551616 - a := by rw [wrapU]; have := ha.2; omega
  simp only [reckonV, reduceIte, Int.reduceEq, if_neg h0, e1, e2, e3, Int.neg_tdiv]
  generalize (18446744073709551616 - a).tdiv b = q
  rw [wrapU, wrapU]
  omega
theorem sdiv_pn {a b : Int} (ha : U64 a) (hb : U64 b) (h1 : a < 9223372036854775808) (h2 : 9223372036854775808 ≤ b) (h0 : b ≠ 0) :
    IntKind.u64.wrap (-(IntKind.u64.wrap (a.tdiv (IntKind.u64.wrap (-b))))) = reckonV 8 a b := by
  have e1 : wrap64 a = a := by have := ha.1; unfold wrap64; omega
  have e2 : wrap64 b = -(18446744073709551616 - b) := by have := hb.2; unfold wrap64; omega
  have e3 : IntKind.u64.wrap (-b) = 18446744073709551616 - b := by rw [wrapU]; have := hb.2; omega
  simp only [reckonV, reduceIte, Int.reduceEq, if_neg h0, e1, e2, e3, Int.tdiv_neg]
  generalize a.tdiv (18446744073709551616 - b) = q
  rw [wrapU, wrapU]
  omega
theorem sdiv_nn {a b : Int} (ha : U64 a) (hb : U64 b) (h1 : 9223372036854775808 ≤ a) (h2 : 9223372036854775808 ≤ b) (h0 : b ≠ 0) :
    IntKind.u64.wrap ((IntKind.u64.wrap (-a)).tdiv (IntKind.u64.wrap (-b))) = reckonV 8 a b := by
  have e1 : wrap64 a = -(18446744073709551616 - a) := by have := ha.2; unfold wrap64; omega
  have e2 : wrap64 b = -(18446744073709551616 - b) := by have := hb.2; unfold wrap64; omega
  have e3 : IntKind.u64.wrap (-a) = 18446744073709551616 - a := by rw [wrapU]; have := ha.2; omega
  have e4 : IntKind.u64.wrap (-b) = 18446744073709551616 - b := by rw [wrapU]; have := hb.2; omega
  simp only [reckonV, reduceIte, Int.reduceEq, if_neg h0, e1, e2, e3, e4, Int.tdiv_neg, Int.neg_tdiv, Int.neg_neg]
  rw [wrapU]
/-! ### The highest bit turned; all bits turned -/
theorem xor_top {a : Int} (ha : U64 a) : bits .xor .u64 a 9223372036854775808 = if a < 9223372036854775808 then a + 9223372036854775808 else a - 9223372036854775808 := by
  obtain ⟨A, rfl⟩ := Int.eq_ofNat_of_zero_le ha.1
  have hA : A < 18446744073709551616 := by have := ha.2; omega
  rw [show (9223372036854775808 : Int) = ((2 ^ 63 : Nat) : Int) from rfl, bits_xor_u64_nat _ _ hA (by decide)]
  have h1 : (A ^^^ 2 ^ 63) / 2 ^ 63 = A / 2 ^ 63 ^^^ 1 := by
    have := Nat.shiftRight_xor_distrib (a := A) (b := 2 ^ 63) (i := 63)
    simp only [Nat.shiftRight_eq_div_pow] at this
    rw [this, Nat.div_self (Nat.two_pow_pos 63)]
  have h2 : (A ^^^ 2 ^ 63) % 2 ^ 63 = A % 2 ^ 63 := by
    rw [Nat.xor_mod_two_pow, Nat.mod_self, Nat.xor_zero]
  have e : (2 : Nat) ^ 63 = 9223372036854775808 := by decide
  rw [e] at h1 h2 ⊢
  generalize A ^^^ 9223372036854775808 = Y at *
  rcases (by omega : A / 9223372036854775808 = 0 ∨ A / 9223372036854775808 = 1) with h | h
  · rw [h] at h1
    have h1 : Y / 9223372036854775808 = 1 := h1
    split <;> omega
  · rw [h] at h1
    have h1 : Y / 9223372036854775808 = 0 := h1
    split <;> omega
theorem below_walk {a b : Int} (ha : U64 a) (hb : U64 b) : decide (bits .xor .u64 a 9223372036854775808 < bits .xor .u64 b 9223372036854775808) = decide (wrap64 a < wrap64 b) := by
  rw [xor_top ha, xor_top hb, decide_eq_decide]
  have := ha.1; have := ha.2; have := hb.1; have := hb.2
  unfold wrap64
  split <;> split <;> omega
theorem xor_all {a : Int} (ha : U64 a) : bits .xor .u64 a 18446744073709551615 = 18446744073709551615 - a := by
  obtain ⟨A, rfl⟩ := Int.eq_ofNat_of_zero_le ha.1
  have hA : A < 18446744073709551616 := by have := ha.2; omega
  rw [show (18446744073709551615 : Int) = ((18446744073709551615 : Nat) : Int) from rfl, bits_xor_u64_nat _ _ hA (by decide)]
  have h := congrArg BitVec.toNat (BitVec.xor_allOnes (x := BitVec.ofNat 64 A))
  rw [BitVec.toNat_xor, BitVec.toNat_not, BitVec.toNat_allOnes, BitVec.toNat_ofNat, Nat.mod_eq_of_lt hA] at h
  have e : (2 : Nat) ^ 64 - 1 = 18446744073709551615 := by decide
  rw [e] at h
  rw [h]
  omega
end Go.Proofs.YtbjcdpmhmebjnaaGreat
/- What Reckon and Shift of the document's own answer give back: contracts, for every kind and all numbers. -/
namespace Go.Proofs.YtbjcdpmhmebjnaaGreat
open Go.RowKit
set_option linter.unusedVariables false
theorem ret_ib {k : IntKind} {a b : Int} {c d : Bool} (h : a = b) (h' : c = d) : Ending.returned (.tuple #[.int k a, .bool c]) = .returned (.tuple #[.int k b, .bool d]) := by rw [h, h']
theorem rol_all (a : Int) (ha : U64 a) : ∃ V : Nat → Int, V 0 = a ∧ (∀ k, 0 ≤ V k) ∧ (∀ k, k < 63 → IntKind.u64.wrap (IntKind.u64.wrap ((V k).tdiv 2) + V k % 2 * 9223372036854775808) = V (k + 1)) ∧ ∀ k, k < 64 → V k = rolV a k := by
  refine ⟨fun k => if k < 64 then rolV a k else 0, ?_, ?_, ?_, ?_⟩
  · simp [rol_zero]
  · intro k
    dsimp only
    split
    · exact (rol_in ha (by omega)).1
    · omega
  · intro k hk
    dsimp only
    rw [if_pos (by omega), if_pos (by omega)]
    exact rol_step ha hk
  · intro k hk
    dsimp only
    rw [if_pos hk]
theorem kind_cases {k : Int} (h : kindB k = true) : k = 1 ∨ k = 2 ∨ k = 3 ∨ k = 4 ∨ k = 5 ∨ k = 6 ∨ k = 7 ∨ k = 8 ∨ k = 9 ∨ k = 10 ∨ k = 11 ∨ k = 12 ∨ k = 13 ∨ k = 14 ∨ k = 15 := by
  have : 1 ≤ k ∧ k ≤ 15 := by simpa [kindB] using h
  omega
theorem reckonV_none {k a b : Int} (h : kindB k = false) : reckonV k a b = 0 := by
  have hn : ¬ (1 ≤ k ∧ k ≤ 15) := by simpa [kindB] using h
  unfold reckonV
  repeat rw [if_neg (by omega)]
end Go.Proofs.YtbjcdpmhmebjnaaGreat
