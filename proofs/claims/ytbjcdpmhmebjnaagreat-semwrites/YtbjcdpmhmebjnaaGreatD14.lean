/- What is done to a step's state: contracts. -/
import Derived.Test.YtbjcdpmhmebjnaaGreatD05
import Derived.Test.YtbjcdpmhmebjnaaGreatD13
import Derived.Test.YtbjcdpmhmebjnaaGreatD07
import Derived.Test.YtbjcdpmhmebjnaaGreatD12
namespace Go.Proofs.YtbjcdpmhmebjnaaGreat
open Go.RowKit
set_option linter.unusedVariables false

/-- Of what was there one block alone may have turned. -/
structure But (g : Nat) (w w' : World) : Prop where
  os : w'.os = w.os
  tape : w'.tape = w.tape
  output : w'.output = w.output
  size : w.heap.size ≤ w'.heap.size
  block : ∀ k, k < w.heap.size → k ≠ g → w'.heap[k]? = w.heap[k]?
theorem But.refl (g : Nat) (w : World) : But g w w := ⟨rfl, rfl, rfl, Nat.le_refl _, fun _ _ _ => rfl⟩
theorem But.trans {g : Nat} {w x y : World} (h : But g w x) (k : But g x y) : But g w y :=
  ⟨k.os.trans h.os, k.tape.trans h.tape, k.output.trans h.output, Nat.le_trans h.size k.size, fun j hj hn => (k.block j (Nat.lt_of_lt_of_le hj h.size) hn).trans (h.block j hj hn)⟩
theorem but_below {g : Nat} {w x : World} (h : Below w.heap.size w x) : But g w x := ⟨h.os, h.tape, h.output, h.size, fun k hk _ => h.block k hk⟩
theorem but_setRow (g : Nat) (w : World) (cs : Array Value) : But g w (w.setRow g cs) := ⟨rfl, rfl, rfl, by rw [size_setRow]; exact Nat.le_refl _, fun k _ hn => setRow_other _ _ _ _ hn⟩
theorem but_setCell (g j : Nat) (w : World) (v : Value) : But g w (w.setCell ⟨g, j, none⟩ v) := ⟨rfl, rfl, rfl, by simp, fun k _ hn => heap_setCell_other _ _ _ _ hn⟩
theorem But.drew {g : Nat} {w x : World} (h : But g w x) : But g w { x with drawn := x.drawn + 1 } := ⟨h.os, h.tape, h.output, h.size, h.block⟩
/-- A block of one's own that was not there: nothing of what was there has turned. -/
theorem But.below {g : Nat} {w x y : World} (h : Below w.heap.size w x) (k : But g x y) (hg : w.heap.size ≤ g) : Below w.heap.size w y :=
  ⟨k.os.trans h.os, k.tape.trans h.tape, k.output.trans h.output, Nat.le_trans h.size k.size, fun j hj => (k.block j (Nat.lt_of_lt_of_le hj h.size) (by omega)).trans (h.block j hj)⟩
theorem But.keep {g b : Nat} {w x : World} {o : Obj} (h : But g w x) (hb : w.heap[b]? = some o) (hn : b ≠ g) : x.heap[b]? = some o := by
  rw [h.block _ (Array.getElem?_eq_some_iff.1 hb).1 hn]; exact hb
/-- A state laid into the step. -/
theorem wpList_store_core {ops : Array Oper} {rest : List Oper} {o : Oper} {a : Act} {w : World} {Q : Exit → Act → World → Prop} (hgd : o.guard = none) (x y : Operand) (ho : o.op = .store 26 x y)
    (g : Nat) (hx : a.eval x = .pointer (some ⟨g, 16, none⟩)) (s : Stp) (d : Cor) (hy : a.eval y = .agg d.cells) (hg : w.heap[g]? = some (.cells s.cells 58))
    (h : ∀ w2 : World, w2.heap[g]? = some (.cells ({ s with c := d } : Stp).cells 58) → But g w w2 → wpList Tryz.prog ops Q rest (a.put o.dst undef) w2) : wpList Tryz.prog ops Q (o :: rest) a w := by
  refine wpList_plain hgd fun K hK => ?_
  have e49 : d.cells.toList.length = 49 := by rw [Array.length_toList, Cor.size]
  have hst : (storeVar 26 ⟨g, 16, none⟩ (.agg d.cells)).run Tryz.prog w = .ok () (w.setRow g ({ s with c := d } : Stp).cells) := by
    have := run_storeCells_at (P := Tryz.prog) g 16 58 d.cells.toList 0 s.cells w hg (by rw [e49, s.size]; decide) (fun v hv => by
      have := Array.all_eq_true_iff_forall_mem.1 d.one v (by simpa using hv); exact this)
    rw [e49] at this
    have e := s.setC d
    simp only [Nat.add_zero] at this
    rw [e] at this
    have hi := d.info
    cases hq : Tryz.prog.info? 26 with
    | none => simp [hq] at hi
    | some inf =>
      have hs : d.cells.size = inf.size := by simp [hq] at hi; omega
      simp [storeVar, sizeOf, typeInfo, hq, Value.cells, hs, this]
  unfold Oper.wp execOp
  simp only [ho, hx, hy, Instr.storeAt, Instr.sureAddr, Sem.run_bind, Sem.run_pure, Result.andThen_ok, hst]
  exact hK _ _ (h _ (setRow_heap _ _ _ _ _ _ hg) (but_setRow _ _ _))
set_option maxHeartbeats 1000000 in
theorem setX_c (g : Nat) (s : Stp) (r v : Int) (w : World) (h : w.heap[g]? = some (.cells s.cells 58)) : Calls Tryz.prog 196 #[.pointer (some ⟨g, 0, none⟩), .int .i64 r, .int .u64 v] w fun e w' => e = .returned (.tuple #[]) ∧ w'.heap[g]? = some (.cells ({ s with c := setXV s.c r v } : Stp).cells 58) ∧ But g w w' := by
  go_enter Tryz.func196, Tryz.ntmps196
  go_wp2_with (first | ((with_reducible refine wpList_load_core rfl _ rfl g rfl s h ?_); simp only [Act.put, List.setIfInBounds_toArray, List.set_cons_succ, List.set_cons_zero]) | (go_at_call 230; refine (SetX_c s.c _ _ _).mono ?_; rintro e w1 ⟨rfl, hB⟩; dsimp only; have hs1 := keep_row h hB) | ((with_reducible refine wpList_store_core rfl _ _ rfl g rfl s _ rfl hs1 ?_); intro w3 hs3 hB3; simp only [Act.put]))
  first | go_end0 | ((try simp only [Exit.inBlock, Exit.then]); refine bodyPost_ret (results_none rfl _ _ _) rfl ?_)
  exact ⟨rfl, hs3, (but_below hB).trans hB3⟩
set_option maxHeartbeats 1000000 in
theorem setSP_c (g : Nat) (s : Stp) (v : Int) (w : World) (h : w.heap[g]? = some (.cells s.cells 58)) : Calls Tryz.prog 226 #[.pointer (some ⟨g, 0, none⟩), .int .i64 31, .int .u64 v] w fun e w' => e = .returned (.tuple #[]) ∧ w'.heap[g]? = some (.cells ({ s with c := setSPV s.c v } : Stp).cells 58) ∧ But g w w' := by
  go_enter Tryz.func226, Tryz.ntmps226
  go_wp2_with (first | ((with_reducible refine wpList_load_core rfl _ rfl g rfl s h ?_); simp only [Act.put, List.setIfInBounds_toArray, List.set_cons_succ, List.set_cons_zero]) | (go_at_call 248; refine (SetSP_c s.c _ _).mono ?_; rintro e w1 ⟨rfl, hB⟩; dsimp only; have hs1 := keep_row h hB) | ((with_reducible refine wpList_store_core rfl _ _ rfl g rfl s _ rfl hs1 ?_); intro w3 hs3 hB3; simp only [Act.put]))
  first | go_end0 | ((try simp only [Exit.inBlock, Exit.then]); refine bodyPost_ret (results_none rfl _ _ _) rfl ?_)
  exact ⟨rfl, hs3, (but_below hB).trans hB3⟩
def pregV (c : Cor) (r v : Int) : Cor := if r = 31 then setSPV c v else setXV c r v
set_option maxHeartbeats 1000000 in
theorem setXOrSP_c (g : Nat) (s : Stp) (r v : Int) (w : World) (h : w.heap[g]? = some (.cells s.cells 58)) : Calls Tryz.prog 226 #[.pointer (some ⟨g, 0, none⟩), .int .i64 r, .int .u64 v] w fun e w' => e = .returned (.tuple #[]) ∧ w'.heap[g]? = some (.cells ({ s with c := pregV s.c r v } : Stp).cells 58) ∧ But g w w' := by
  unfold pregV
  by_cases h31 : r = 31
  · rw [if_pos h31, h31]
    exact setSP_c g s v w h
  · rw [if_neg h31]
    have e : (r != 31) = true := by simp [h31]
    go_enter Tryz.func226, Tryz.ntmps226
    go_wp2_with (go_at_call 196; refine (setX_c g s _ _ _ h).mono ?_; rintro e w1 ⟨rfl, hs, hB⟩; dsimp only)
    first | go_end0 | ((try simp only [Exit.inBlock, Exit.then]); refine bodyPost_ret (results_none rfl _ _ _) rfl ?_)
    exact ⟨rfl, hs, hB⟩
set_option maxHeartbeats 1000000 in
theorem setFlags_no (g : Nat) (s : Stp) (f : Flg) (w : World) (h : w.heap[g]? = some (.cells s.cells 58)) (hf : s.i.flags = false) : Calls Tryz.prog 228 #[.pointer (some ⟨g, 0, none⟩), f.val] w fun e w' => e = .returned (.tuple #[]) ∧ Below w.heap.size w w' := by
  go_enter Tryz.func228, Tryz.ntmps228
  go_upto_region 1 with fail
  have hB := r_below_alloc w (.cells f.cells 173)
  have hs := keep_row h hB
  generalize w.alloc _ = w1 at hB hs ⊢
  have c12 := at_i hs 12 (.bool s.i.flags) (by decide) rfl
  rw [hf] at c12
  go_wp2
  first | go_end0 | ((try simp only [Exit.inBlock, Exit.then]); refine bodyPost_ret (results_none rfl _ _ _) rfl ?_)
  exact ⟨rfl, hB⟩
set_option maxHeartbeats 1000000 in
theorem sum_no (g : Nat) (s : Stp) (a b : Int) (ha : Hid (U64 a)) (hb : Hid (U64 b)) (w : World) (h : w.heap[g]? = some (.cells s.cells 58)) (hf : s.i.flags = false) (hm : s.i.minus = false) : Calls Tryz.prog 194 #[.pointer (some ⟨g, 0, none⟩), .int .u64 a, .int .u64 b] w fun e w' => e = .returned (.int .u64 (sumV a b false)) ∧ Below w.heap.size w w' := by
  have c13 := at_i h 13 (.bool s.i.minus) (by decide) rfl
  rw [hm] at c13
  go_enter Tryz.func194, Tryz.ntmps194
  go_upto_region 4 with (first | (go_at_call 227; refine (Add_c _ _ _ ha hb _).mono ?_; rintro e w1 ⟨rfl, hB⟩; dsimp only; have H := (has_none w1)) | ((with_reducible refine wpList_store_new H rfl 173 _ _ rfl (addF a b false).cells rfl rfl (Flg.info _) ?_ (Flg.one _) ?_); (focus rfl); intro w2 H2; simp only [Act.put]))
  have hs := keep_row h (r_below_then hB H2.below)
  go_wp2_with (first | ((with_reducible refine wpList_load_ifA rfl 173 _ rfl _ rfl 173 _ (0, 0) _ (H2.get List.mem_cons_self) Tryz.underlying173 rfl (Flg.info _) ?_); simp only [Act.put, List.setIfInBounds_toArray, List.set_cons_succ, List.set_cons_zero]) | (go_at_call 228; refine (setFlags_no g s _ _ hs hf).mono ?_; rintro e w3 ⟨rfl, hB3⟩; dsimp only))
  go_ret
  exact ⟨rfl, r_below_then (r_below_then hB H2.below) hB3⟩
set_option maxHeartbeats 1000000 in
theorem setWithImm_no (g : Nat) (s : Stp) (v : Int) (w : World) (h : w.heap[g]? = some (.cells s.cells 58)) (hf : s.i.flags = false) : Calls Tryz.prog 193 #[.pointer (some ⟨g, 0, none⟩), .int .u64 v] w fun e w' => e = .returned (.tuple #[]) ∧ w'.heap[g]? = some (.cells ({ s with c := pregV s.c s.i.rd v } : Stp).cells 58) ∧ But g w w' := by
  have c12 := at_i h 12 (.bool s.i.flags) (by decide) rfl
  rw [hf] at c12
  have c2 := at_i h 2 (.int .i64 s.i.rd) (by decide) rfl
  go_enter Tryz.func193, Tryz.ntmps193
  go_wp2_with (go_at_call 226; refine (setXOrSP_c g s _ _ _ h).mono ?_; rintro e w1 ⟨rfl, hs, hB⟩; dsimp only)
  first | go_end0 | ((try simp only [Exit.inBlock, Exit.then]); refine bodyPost_ret (results_none rfl _ _ _) rfl ?_)
  exact ⟨rfl, hs, hB⟩
def pick3 (c d : Cor) : Nat → Cor
  | 0 => c
  | 1 => c
  | 2 => c
  | _ => d
/-- The step behind the first calls of a region. -/
def Ph (g : Nat) (i : Ins) (cj : Nat → Cor) (k : Gt) (e : Int) (w0 : World) (j : Nat) (w : World) : Prop := w.heap[g]? = some (.cells (Stp.cells ⟨i, cj j, k, e⟩) 58) ∧ But g w0 w
theorem ph_start {g : Nat} {i : Ins} {cj : Nat → Cor} {k : Gt} {e : Int} {w : World} (h : w.heap[g]? = some (.cells (Stp.cells ⟨i, cj 0, k, e⟩) 58)) : Ph g i cj k e w 0 { w with drawn := w.drawn + 1 } := ⟨h, (But.refl g w).drew⟩
theorem Ph.next {g : Nat} {i : Ins} {cj : Nat → Cor} {k : Gt} {e : Int} {w0 w w' : World} {j : Nat} (h : Ph g i cj k e w0 j w) (hs : w'.heap[g]? = some (.cells (Stp.cells ⟨i, cj (j + 1), k, e⟩) 58)) (hb : But g w w') : Ph g i cj k e w0 (j + 1) w' := ⟨hs, h.2.trans hb⟩
theorem Ph.same {g : Nat} {i : Ins} {cj : Nat → Cor} {k : Gt} {e : Int} {w0 w w' : World} {j : Nat} (h : Ph g i cj k e w0 j w) (he : cj (j + 1) = cj j) (hb : Below w.heap.size w w') : Ph g i cj k e w0 (j + 1) w' := ⟨by rw [he]; exact keep_row h.1 hb, h.2.trans (but_below hb)⟩
set_option maxRecDepth 4000 in
set_option maxHeartbeats 2000000 in
theorem loaded_c (g : Nat) (i : Ins) (c : Cor) (k : Gt) (e : Int) (w : World) (h : w.heap[g]? = some (.cells (Stp.cells ⟨i, c, k, e⟩) 58)) : Calls Tryz.prog 142 #[.pointer (some ⟨g, 0, none⟩)] w fun e2 w' => e2 = .returned (.tuple #[]) ∧ w'.heap[g]? = some (.cells (Stp.cells ⟨i, setXV c i.rd k.value, k, e⟩) 58) ∧ But g w w' := by
  go_enter Tryz.func142, Tryz.ntmps142
  refine Chn.wp_region_chain (Ph g i (fun j => if j = 0 then c else setXV c i.rd k.value) k e w) [11] [(.pointer (some ⟨g, 0, none⟩)), (.pointer (some ⟨g, 0, none⟩)), (.pointer (some ⟨g, 0, none⟩)), (.pointer (some ⟨g, 0, none⟩)), (.pointer (some ⟨g, 2, none⟩)), (.int .i64 i.rd), (.pointer (some ⟨g, 0, none⟩)), (.pointer (some ⟨g, 0, none⟩)), (.pointer (some ⟨g, 65, none⟩)), (.pointer (some ⟨g, 65, none⟩)), (.int .u64 k.value), (.tuple #[])] (by kernel_rfl) (by kernel_rfl) (by kernel_rfl) (by kernel_rfl) (ph_start h) ?_
  refine ⟨fun j w1 hC => by exact Chn.upon_pure hC (fun F hF => by (go_simp <;> exact hF)), ?_⟩
  simp only [Act.put, List.setIfInBounds_toArray, List.set_cons_succ, List.set_cons_zero]
  refine ⟨fun j w1 hC => by exact Chn.upon_pure hC (fun F hF => by (go_simp <;> exact hF)), ?_⟩
  simp only [Act.put, List.setIfInBounds_toArray, List.set_cons_succ, List.set_cons_zero]
  refine ⟨fun j w1 hC => by exact Chn.upon_pure hC (fun F hF => by (go_simp <;> exact hF)), ?_⟩
  simp only [Act.put, List.setIfInBounds_toArray, List.set_cons_succ, List.set_cons_zero]
  refine ⟨fun j w1 hC => by exact Chn.upon_pure hC (fun F hF => by (go_simp <;> exact hF)), ?_⟩
  simp only [Act.put, List.setIfInBounds_toArray, List.set_cons_succ, List.set_cons_zero]
  refine ⟨fun j w1 hC => by exact Chn.upon_pure hC (fun F hF => by (go_simp <;> exact hF)), ?_⟩
  simp only [Act.put, List.setIfInBounds_toArray, List.set_cons_succ, List.set_cons_zero]
  refine ⟨fun j w1 hC => by have hq := at_i hC.1 2 (.int .i64 i.rd) (by decide) rfl; exact Chn.upon_pure hC (fun F hF => by (go_simp <;> exact hF)), ?_⟩
  simp only [Act.put, List.setIfInBounds_toArray, List.set_cons_succ, List.set_cons_zero]
  refine ⟨fun j w1 hC => by exact Chn.upon_pure hC (fun F hF => by (go_simp <;> exact hF)), ?_⟩
  simp only [Act.put, List.setIfInBounds_toArray, List.set_cons_succ, List.set_cons_zero]
  refine ⟨fun j w1 hC => by exact Chn.upon_pure hC (fun F hF => by (go_simp <;> exact hF)), ?_⟩
  simp only [Act.put, List.setIfInBounds_toArray, List.set_cons_succ, List.set_cons_zero]
  refine ⟨fun j w1 hC => by exact Chn.upon_pure hC (fun F hF => by (go_simp <;> exact hF)), ?_⟩
  simp only [Act.put, List.setIfInBounds_toArray, List.set_cons_succ, List.set_cons_zero]
  refine ⟨fun j w1 hC => by exact Chn.upon_pure hC (fun F hF => by (go_simp <;> exact hF)), ?_⟩
  simp only [Act.put, List.setIfInBounds_toArray, List.set_cons_succ, List.set_cons_zero]
  refine ⟨fun j w1 hC => by have hq := at_g hC.1 0 (.int .u64 k.value) (by decide) rfl; exact Chn.upon_pure hC (fun F hF => by (go_simp <;> exact hF)), ?_⟩
  simp only [Act.put, List.setIfInBounds_toArray, List.set_cons_succ, List.set_cons_zero]
  refine ⟨fun w1 hC => by exact Chn.upon_call (setX_c g ⟨i, c, k, e⟩ i.rd k.value w1 hC.1) (fun e2 w2 hh => ⟨hh.1, hC.next hh.2.1 hh.2.2⟩) (fun F hF => by (go_simp <;> exact hF)), ?_⟩
  simp only [Act.put, List.setIfInBounds_toArray, List.set_cons_succ, List.set_cons_zero]
  intro w2 hC
  go_wp2
  first | go_end0 | ((try simp only [Exit.inBlock, Exit.then]); refine bodyPost_ret (results_none rfl _ _ _) rfl ?_)
  exact ⟨rfl, hC⟩
set_option maxRecDepth 4000 in
set_option maxHeartbeats 4000000 in
theorem addImm_va (g : Nat) (i : Ins) (c d : Cor) (k : Gt) (e a m b S : Int) (w : World) (h : w.heap[g]? = some (.cells (Stp.cells ⟨i, c, k, e⟩) 58)) (hf : i.flags = false) (hm : i.minus = false) (ha : i.amount = 0)
    (hA : spX c i.rn = a) (hM : i.imm % 18446744073709551616 = m) (hb : m * 1 % 18446744073709551616 = b) (hS : sumV a b false = S) (hd : pregV c i.rd S = d) (ha64 : Hid (U64 a)) (hb64 : Hid (U64 b)) :
    Calls Tryz.prog 126 #[.pointer (some ⟨g, 0, none⟩)] w fun e2 w' => e2 = .returned (.tuple #[]) ∧ w'.heap[g]? = some (.cells (Stp.cells ⟨i, d, k, e⟩) 58) ∧ But g w w' := by
  go_enter Tryz.func126, Tryz.ntmps126
  refine Chn.wp_region_chain (Ph g i (pick3 c d) k e w) [8, 21, 22] [(.pointer (some ⟨g, 0, none⟩)), (.pointer (some ⟨g, 0, none⟩)), (.pointer (some ⟨g, 0, none⟩)), (.pointer (some ⟨g, 0, none⟩)), (.pointer (some ⟨g, 0, none⟩)), (.pointer (some ⟨g, 0, none⟩)), (.pointer (some ⟨g, 3, none⟩)), (.int .i64 i.rn), (.int .u64 a), (.pointer (some ⟨g, 0, none⟩)), (.pointer (some ⟨g, 0, none⟩)), (.pointer (some ⟨g, 0, none⟩)), (.pointer (some ⟨g, 6, none⟩)), (.int .i64 i.imm), (.int .u64 m), (.pointer (some ⟨g, 0, none⟩)), (.pointer (some ⟨g, 0, none⟩)), (.pointer (some ⟨g, 0, none⟩)), (.pointer (some ⟨g, 8, none⟩)), (.int .i64 0), (.int .u64 b), (.int .u64 S), (.tuple #[])] (by kernel_rfl) (by kernel_rfl) (by kernel_rfl) (by kernel_rfl) (ph_start h) ?_
  refine ⟨fun j w1 hC => by exact Chn.upon_pure hC (fun F hF => by (go_simp <;> exact hF)), ?_⟩
  simp only [Act.put, List.setIfInBounds_toArray, List.set_cons_succ, List.set_cons_zero]
  refine ⟨fun j w1 hC => by exact Chn.upon_pure hC (fun F hF => by (go_simp <;> exact hF)), ?_⟩
  simp only [Act.put, List.setIfInBounds_toArray, List.set_cons_succ, List.set_cons_zero]
  refine ⟨fun j w1 hC => by exact Chn.upon_pure hC (fun F hF => by (go_simp <;> exact hF)), ?_⟩
  simp only [Act.put, List.setIfInBounds_toArray, List.set_cons_succ, List.set_cons_zero]
  refine ⟨fun j w1 hC => by exact Chn.upon_pure hC (fun F hF => by (go_simp <;> exact hF)), ?_⟩
  simp only [Act.put, List.setIfInBounds_toArray, List.set_cons_succ, List.set_cons_zero]
  refine ⟨fun j w1 hC => by exact Chn.upon_pure hC (fun F hF => by (go_simp <;> exact hF)), ?_⟩
  simp only [Act.put, List.setIfInBounds_toArray, List.set_cons_succ, List.set_cons_zero]
  refine ⟨fun j w1 hC => by exact Chn.upon_pure hC (fun F hF => by (go_simp <;> exact hF)), ?_⟩
  simp only [Act.put, List.setIfInBounds_toArray, List.set_cons_succ, List.set_cons_zero]
  refine ⟨fun j w1 hC => by exact Chn.upon_pure hC (fun F hF => by (go_simp <;> exact hF)), ?_⟩
  simp only [Act.put, List.setIfInBounds_toArray, List.set_cons_succ, List.set_cons_zero]
  refine ⟨fun j w1 hC => by have hq := at_i hC.1 3 (.int .i64 i.rn) (by decide) rfl; exact Chn.upon_pure hC (fun F hF => by (go_simp <;> exact hF)), ?_⟩
  simp only [Act.put, List.setIfInBounds_toArray, List.set_cons_succ, List.set_cons_zero]
  refine ⟨fun w1 hC => by exact Chn.upon_call (xOrSP_c g ⟨i, c, k, e⟩ i.rn w1 hC.1) (fun e2 w2 hh => ⟨by rw [hh.1, hA], hC.same rfl hh.2⟩) (fun F hF => by (go_simp <;> exact hF)), ?_⟩
  simp only [Act.put, List.setIfInBounds_toArray, List.set_cons_succ, List.set_cons_zero]
  refine ⟨fun j w1 hC => by exact Chn.upon_pure hC (fun F hF => by (go_simp <;> exact hF)), ?_⟩
  simp only [Act.put, List.setIfInBounds_toArray, List.set_cons_succ, List.set_cons_zero]
  refine ⟨fun j w1 hC => by exact Chn.upon_pure hC (fun F hF => by (go_simp <;> exact hF)), ?_⟩
  simp only [Act.put, List.setIfInBounds_toArray, List.set_cons_succ, List.set_cons_zero]
  refine ⟨fun j w1 hC => by exact Chn.upon_pure hC (fun F hF => by (go_simp <;> exact hF)), ?_⟩
  simp only [Act.put, List.setIfInBounds_toArray, List.set_cons_succ, List.set_cons_zero]
  refine ⟨fun j w1 hC => by exact Chn.upon_pure hC (fun F hF => by (go_simp <;> exact hF)), ?_⟩
  simp only [Act.put, List.setIfInBounds_toArray, List.set_cons_succ, List.set_cons_zero]
  refine ⟨fun j w1 hC => by have hq := at_i hC.1 6 (.int .i64 i.imm) (by decide) rfl; exact Chn.upon_pure hC (fun F hF => by (go_simp <;> exact hF)), ?_⟩
  simp only [Act.put, List.setIfInBounds_toArray, List.set_cons_succ, List.set_cons_zero]
  refine ⟨fun j w1 hC => by exact Chn.upon_int hC (IntKind.u64.wrap i.imm) (by rw [wrapU]; exact hM) (fun F hF => by (go_simp <;> exact hF)), ?_⟩
  simp only [Act.put, List.setIfInBounds_toArray, List.set_cons_succ, List.set_cons_zero]
  refine ⟨fun j w1 hC => by exact Chn.upon_pure hC (fun F hF => by (go_simp <;> exact hF)), ?_⟩
  simp only [Act.put, List.setIfInBounds_toArray, List.set_cons_succ, List.set_cons_zero]
  refine ⟨fun j w1 hC => by exact Chn.upon_pure hC (fun F hF => by (go_simp <;> exact hF)), ?_⟩
  simp only [Act.put, List.setIfInBounds_toArray, List.set_cons_succ, List.set_cons_zero]
  refine ⟨fun j w1 hC => by exact Chn.upon_pure hC (fun F hF => by (go_simp <;> exact hF)), ?_⟩
  simp only [Act.put, List.setIfInBounds_toArray, List.set_cons_succ, List.set_cons_zero]
  refine ⟨fun j w1 hC => by exact Chn.upon_pure hC (fun F hF => by (go_simp <;> exact hF)), ?_⟩
  simp only [Act.put, List.setIfInBounds_toArray, List.set_cons_succ, List.set_cons_zero]
  refine ⟨fun j w1 hC => by have hq := (by have hq := at_i hC.1 8 (.int .i64 i.amount) (by decide) rfl; rw [ha] at hq; exact hq : w1.cell? ⟨g, 8, none⟩ = some (.int .i64 0)); exact Chn.upon_pure hC (fun F hF => by (go_simp <;> exact hF)), ?_⟩
  simp only [Act.put, List.setIfInBounds_toArray, List.set_cons_succ, List.set_cons_zero]
  refine ⟨fun j w1 hC => by exact Chn.upon_int hC (IntKind.u64.wrap m) (by rw [wrapU, ← hb, Int.mul_one]) (fun F hF => by (go_simp <;> exact hF)), ?_⟩
  simp only [Act.put, List.setIfInBounds_toArray, List.set_cons_succ, List.set_cons_zero]
  refine ⟨fun w1 hC => by exact Chn.upon_call (sum_no g ⟨i, c, k, e⟩ a b ha64 hb64 w1 hC.1 hf hm) (fun e2 w2 hh => ⟨by rw [hh.1, hS], hC.same rfl hh.2⟩) (fun F hF => by (go_simp <;> exact hF)), ?_⟩
  simp only [Act.put, List.setIfInBounds_toArray, List.set_cons_succ, List.set_cons_zero]
  refine ⟨fun w1 hC => by exact Chn.upon_call (setWithImm_no g ⟨i, c, k, e⟩ S w1 hC.1 hf) (fun e2 w2 hh => ⟨hh.1, hC.next (by rw [hh.2.1, hd]; rfl) hh.2.2⟩) (fun F hF => by (go_simp <;> exact hF)), ?_⟩
  simp only [Act.put, List.setIfInBounds_toArray, List.set_cons_succ, List.set_cons_zero]
  intro w2 hC
  go_wp2
  first | go_end0 | ((try simp only [Exit.inBlock, Exit.then]); refine bodyPost_ret (results_none rfl _ _ _) rfl ?_)
  exact ⟨rfl, hC⟩
set_option maxRecDepth 4000 in
set_option maxHeartbeats 4000000 in
theorem addImm_vb (g : Nat) (i : Ins) (c d : Cor) (k : Gt) (e a m b S : Int) (w : World) (h : w.heap[g]? = some (.cells (Stp.cells ⟨i, c, k, e⟩) 58)) (hf : i.flags = false) (hm : i.minus = false) (ha : i.amount = 12)
    (hA : spX c i.rn = a) (hM : i.imm % 18446744073709551616 = m) (hb : m * 4096 % 18446744073709551616 = b) (hS : sumV a b false = S) (hd : pregV c i.rd S = d) (ha64 : Hid (U64 a)) (hb64 : Hid (U64 b)) :
    Calls Tryz.prog 126 #[.pointer (some ⟨g, 0, none⟩)] w fun e2 w' => e2 = .returned (.tuple #[]) ∧ w'.heap[g]? = some (.cells (Stp.cells ⟨i, d, k, e⟩) 58) ∧ But g w w' := by
  go_enter Tryz.func126, Tryz.ntmps126
  refine Chn.wp_region_chain (Ph g i (pick3 c d) k e w) [8, 21, 22] [(.pointer (some ⟨g, 0, none⟩)), (.pointer (some ⟨g, 0, none⟩)), (.pointer (some ⟨g, 0, none⟩)), (.pointer (some ⟨g, 0, none⟩)), (.pointer (some ⟨g, 0, none⟩)), (.pointer (some ⟨g, 0, none⟩)), (.pointer (some ⟨g, 3, none⟩)), (.int .i64 i.rn), (.int .u64 a), (.pointer (some ⟨g, 0, none⟩)), (.pointer (some ⟨g, 0, none⟩)), (.pointer (some ⟨g, 0, none⟩)), (.pointer (some ⟨g, 6, none⟩)), (.int .i64 i.imm), (.int .u64 m), (.pointer (some ⟨g, 0, none⟩)), (.pointer (some ⟨g, 0, none⟩)), (.pointer (some ⟨g, 0, none⟩)), (.pointer (some ⟨g, 8, none⟩)), (.int .i64 12), (.int .u64 b), (.int .u64 S), (.tuple #[])] (by kernel_rfl) (by kernel_rfl) (by kernel_rfl) (by kernel_rfl) (ph_start h) ?_
  refine ⟨fun j w1 hC => by exact Chn.upon_pure hC (fun F hF => by (go_simp <;> exact hF)), ?_⟩
  simp only [Act.put, List.setIfInBounds_toArray, List.set_cons_succ, List.set_cons_zero]
  refine ⟨fun j w1 hC => by exact Chn.upon_pure hC (fun F hF => by (go_simp <;> exact hF)), ?_⟩
  simp only [Act.put, List.setIfInBounds_toArray, List.set_cons_succ, List.set_cons_zero]
  refine ⟨fun j w1 hC => by exact Chn.upon_pure hC (fun F hF => by (go_simp <;> exact hF)), ?_⟩
  simp only [Act.put, List.setIfInBounds_toArray, List.set_cons_succ, List.set_cons_zero]
  refine ⟨fun j w1 hC => by exact Chn.upon_pure hC (fun F hF => by (go_simp <;> exact hF)), ?_⟩
  simp only [Act.put, List.setIfInBounds_toArray, List.set_cons_succ, List.set_cons_zero]
  refine ⟨fun j w1 hC => by exact Chn.upon_pure hC (fun F hF => by (go_simp <;> exact hF)), ?_⟩
  simp only [Act.put, List.setIfInBounds_toArray, List.set_cons_succ, List.set_cons_zero]
  refine ⟨fun j w1 hC => by exact Chn.upon_pure hC (fun F hF => by (go_simp <;> exact hF)), ?_⟩
  simp only [Act.put, List.setIfInBounds_toArray, List.set_cons_succ, List.set_cons_zero]
  refine ⟨fun j w1 hC => by exact Chn.upon_pure hC (fun F hF => by (go_simp <;> exact hF)), ?_⟩
  simp only [Act.put, List.setIfInBounds_toArray, List.set_cons_succ, List.set_cons_zero]
  refine ⟨fun j w1 hC => by have hq := at_i hC.1 3 (.int .i64 i.rn) (by decide) rfl; exact Chn.upon_pure hC (fun F hF => by (go_simp <;> exact hF)), ?_⟩
  simp only [Act.put, List.setIfInBounds_toArray, List.set_cons_succ, List.set_cons_zero]
  refine ⟨fun w1 hC => by exact Chn.upon_call (xOrSP_c g ⟨i, c, k, e⟩ i.rn w1 hC.1) (fun e2 w2 hh => ⟨by rw [hh.1, hA], hC.same rfl hh.2⟩) (fun F hF => by (go_simp <;> exact hF)), ?_⟩
  simp only [Act.put, List.setIfInBounds_toArray, List.set_cons_succ, List.set_cons_zero]
  refine ⟨fun j w1 hC => by exact Chn.upon_pure hC (fun F hF => by (go_simp <;> exact hF)), ?_⟩
  simp only [Act.put, List.setIfInBounds_toArray, List.set_cons_succ, List.set_cons_zero]
  refine ⟨fun j w1 hC => by exact Chn.upon_pure hC (fun F hF => by (go_simp <;> exact hF)), ?_⟩
  simp only [Act.put, List.setIfInBounds_toArray, List.set_cons_succ, List.set_cons_zero]
  refine ⟨fun j w1 hC => by exact Chn.upon_pure hC (fun F hF => by (go_simp <;> exact hF)), ?_⟩
  simp only [Act.put, List.setIfInBounds_toArray, List.set_cons_succ, List.set_cons_zero]
  refine ⟨fun j w1 hC => by exact Chn.upon_pure hC (fun F hF => by (go_simp <;> exact hF)), ?_⟩
  simp only [Act.put, List.setIfInBounds_toArray, List.set_cons_succ, List.set_cons_zero]
  refine ⟨fun j w1 hC => by have hq := at_i hC.1 6 (.int .i64 i.imm) (by decide) rfl; exact Chn.upon_pure hC (fun F hF => by (go_simp <;> exact hF)), ?_⟩
  simp only [Act.put, List.setIfInBounds_toArray, List.set_cons_succ, List.set_cons_zero]
  refine ⟨fun j w1 hC => by exact Chn.upon_int hC (IntKind.u64.wrap i.imm) (by rw [wrapU]; exact hM) (fun F hF => by (go_simp <;> exact hF)), ?_⟩
  simp only [Act.put, List.setIfInBounds_toArray, List.set_cons_succ, List.set_cons_zero]
  refine ⟨fun j w1 hC => by exact Chn.upon_pure hC (fun F hF => by (go_simp <;> exact hF)), ?_⟩
  simp only [Act.put, List.setIfInBounds_toArray, List.set_cons_succ, List.set_cons_zero]
  refine ⟨fun j w1 hC => by exact Chn.upon_pure hC (fun F hF => by (go_simp <;> exact hF)), ?_⟩
  simp only [Act.put, List.setIfInBounds_toArray, List.set_cons_succ, List.set_cons_zero]
  refine ⟨fun j w1 hC => by exact Chn.upon_pure hC (fun F hF => by (go_simp <;> exact hF)), ?_⟩
  simp only [Act.put, List.setIfInBounds_toArray, List.set_cons_succ, List.set_cons_zero]
  refine ⟨fun j w1 hC => by exact Chn.upon_pure hC (fun F hF => by (go_simp <;> exact hF)), ?_⟩
  simp only [Act.put, List.setIfInBounds_toArray, List.set_cons_succ, List.set_cons_zero]
  refine ⟨fun j w1 hC => by have hq := (by have hq := at_i hC.1 8 (.int .i64 i.amount) (by decide) rfl; rw [ha] at hq; exact hq : w1.cell? ⟨g, 8, none⟩ = some (.int .i64 12)); exact Chn.upon_pure hC (fun F hF => by (go_simp <;> exact hF)), ?_⟩
  simp only [Act.put, List.setIfInBounds_toArray, List.set_cons_succ, List.set_cons_zero]
  refine ⟨fun j w1 hC => by exact Chn.upon_int hC (IntKind.u64.wrap (m * 4096)) (by rw [wrapU]; exact hb) (fun F hF => by (go_simp <;> exact hF)), ?_⟩
  simp only [Act.put, List.setIfInBounds_toArray, List.set_cons_succ, List.set_cons_zero]
  refine ⟨fun w1 hC => by exact Chn.upon_call (sum_no g ⟨i, c, k, e⟩ a b ha64 hb64 w1 hC.1 hf hm) (fun e2 w2 hh => ⟨by rw [hh.1, hS], hC.same rfl hh.2⟩) (fun F hF => by (go_simp <;> exact hF)), ?_⟩
  simp only [Act.put, List.setIfInBounds_toArray, List.set_cons_succ, List.set_cons_zero]
  refine ⟨fun w1 hC => by exact Chn.upon_call (setWithImm_no g ⟨i, c, k, e⟩ S w1 hC.1 hf) (fun e2 w2 hh => ⟨hh.1, hC.next (by rw [hh.2.1, hd]; rfl) hh.2.2⟩) (fun F hF => by (go_simp <;> exact hF)), ?_⟩
  simp only [Act.put, List.setIfInBounds_toArray, List.set_cons_succ, List.set_cons_zero]
  intro w2 hC
  go_wp2
  first | go_end0 | ((try simp only [Exit.inBlock, Exit.then]); refine bodyPost_ret (results_none rfl _ _ _) rfl ?_)
  exact ⟨rfl, hC⟩
end Go.Proofs.YtbjcdpmhmebjnaaGreat
/- What an instruction does, found by its Op; the state behind it, where nothing is an exception: contracts. -/
namespace Go.Proofs.YtbjcdpmhmebjnaaGreat
open Go.RowKit
set_option linter.unusedVariables false

theorem but_own {g b : Nat} {w x : World} {cs : Array Value} (h : But g w x) (hb : w.heap.size ≤ b) : But g w (x.setRow b cs) :=
  ⟨h.os, h.tape, h.output, by rw [size_setRow]; exact h.size, fun k hk hn => by rw [setRow_other _ _ _ _ (by omega)]; exact h.block k hk hn⟩
theorem but_alloc {g : Nat} {w : World} (o : Obj) : But g w (w.alloc o) := but_below (r_below_alloc w o)
def doRow (g : Nat) : Array Value := #[.nilFunc, .func (.func 126) #[.pointer (some ⟨g, 0, none⟩)] #[], .func (.func 127) #[.pointer (some ⟨g, 0, none⟩)] #[], .func (.func 128) #[.pointer (some ⟨g, 0, none⟩)] #[], .func (.func 129) #[.pointer (some ⟨g, 0, none⟩)] #[], .func (.func 130) #[.pointer (some ⟨g, 0, none⟩)] #[], .func (.func 131) #[.pointer (some ⟨g, 0, none⟩)] #[], .func (.func 132) #[.pointer (some ⟨g, 0, none⟩)] #[], .func (.func 133) #[.pointer (some ⟨g, 0, none⟩)] #[], .func (.func 134) #[.pointer (some ⟨g, 0, none⟩)] #[], .func (.func 135) #[.pointer (some ⟨g, 0, none⟩)] #[], .func (.func 136) #[.pointer (some ⟨g, 0, none⟩)] #[], .func (.func 137) #[.pointer (some ⟨g, 0, none⟩)] #[], .func (.func 138) #[.pointer (some ⟨g, 0, none⟩)] #[], .func (.func 139) #[.pointer (some ⟨g, 0, none⟩)] #[], .func (.func 140) #[.pointer (some ⟨g, 0, none⟩)] #[], .func (.func 141) #[.pointer (some ⟨g, 0, none⟩)] #[], .func (.func 142) #[.pointer (some ⟨g, 0, none⟩)] #[], .nilFunc, .func (.func 142) #[.pointer (some ⟨g, 0, none⟩)] #[], .nilFunc, .func (.func 142) #[.pointer (some ⟨g, 0, none⟩)] #[], .nilFunc, .func (.func 142) #[.pointer (some ⟨g, 0, none⟩)] #[], .func (.func 143) #[.pointer (some ⟨g, 0, none⟩)] #[], .nilFunc, .nilFunc, .nilFunc, .nilFunc, .nilFunc, .nilFunc, .func (.func 144) #[.pointer (some ⟨g, 0, none⟩)] #[], .func (.func 145) #[.pointer (some ⟨g, 0, none⟩)] #[], .func (.func 146) #[.pointer (some ⟨g, 0, none⟩)] #[], .nilFunc, .nilFunc, .func (.func 147) #[.pointer (some ⟨g, 0, none⟩)] #[], .func (.func 148) #[.pointer (some ⟨g, 0, none⟩)] #[]]
theorem doRow_size (g : Nat) : (doRow g).size = 38 := rfl
theorem doRow_one (g : Nat) : (doRow g).all (·.oneCell') = true := by simp [doRow, Value.oneCell']
theorem info111 (g : Nat) : (Tryz.prog.info? 115).map (·.size) = some (doRow g).size := by rw [doRow_size]; kernel_rfl
set_option maxRecDepth 4000 in
set_option maxHeartbeats 4000000 in
theorem do_some (g : Nat) (s s' : Stp) (w : World) (h : w.heap[g]? = some (.cells s.cells 58)) (k : Nat) (hk : k < 38) (hop : s.i.op = (k : Int)) (f : Nat) (hrow : (doRow g)[k]? = some (.func (.func f) #[.pointer (some ⟨g, 0, none⟩)] #[]))
    (hE : ∀ (args : Array Value) (w : World), (callFunc f args).run Tryz.prog w = .ok (.enter f args) w)
    (hc : ∀ w : World, w.heap[g]? = some (.cells s.cells 58) → Calls Tryz.prog f #[.pointer (some ⟨g, 0, none⟩)] w fun e w' => e = .returned (.tuple #[]) ∧ w'.heap[g]? = some (.cells s'.cells 58) ∧ But g w w') :
    Calls Tryz.prog 54 #[.pointer (some ⟨g, 0, none⟩)] w fun e w' => e = .returned (.tuple #[]) ∧ w'.heap[g]? = some (.cells s'.cells 58) ∧ But g w w' := by
  go_enter Tryz.func54, Tryz.ntmps54
  have H := has_none w
  go_upto_region 1 with (first | ((with_reducible refine wpList_builtG rfl 115 _ rfl (doRow g) (by kernel_rfl) ?_); simp only [Act.put, List.setIfInBounds_toArray, List.set_cons_succ, List.set_cons_zero]) | ((with_reducible refine wpList_store_new H rfl 115 _ _ rfl (doRow g) rfl rfl (info111 g) ?_ (doRow_one g) ?_); (focus rfl); intro w2 H2; simp only [Act.put]))
  have hs := keep_row h H2.below
  have c0 := at_i hs 0 (.int .i64 s.i.op) (by decide) rfl
  rw [hop] at c0
  have ck := H2.at List.mem_cons_self k _ hrow
  have hB := H2.below
  clear H2
  generalize w.heap.size = z at ck ⊢
  have hk1 : (k : Int) < 38 := by omega
  go_upto_region 3 with fail
  go_wp2_with (refine (hc _ hs).mono ?_; rintro e w3 ⟨rfl, hs3, hB3⟩; dsimp only)
  first | go_end0 | ((try simp only [Exit.inBlock, Exit.then]); refine bodyPost_ret (results_none rfl _ _ _) rfl ?_)
  exact ⟨rfl, hs3, (but_below hB).trans hB3⟩
/-- The PC laid anew. -/
theorem Stp.setPc (s : Stp) (n : Int) : s.cells.setIfInBounds 49 (.int .u64 n) = ({ s with c := { s.c with pc := n } } : Stp).cells := by
  unfold Stp.cells
  rw [Array.setIfInBounds_append_right (by simp), Array.setIfInBounds_append_left (by simp [Cor.size])]
  have := s.c.s33 n
  simp only [List.size_toArray, List.length_cons, List.length_nil] at this ⊢
  rw [show 49 - (0 + 1 + 1 + 1 + 1 + 1 + 1 + 1 + 1 + 1 + 1 + 1 + 1 + 1 + 1 + 1 + 1) = 33 from rfl, this]
theorem wpList_store_pc {ops : Array Oper} {rest : List Oper} {o : Oper} {a : Act} {w : World} {Q : Exit → Act → World → Prop} (hgd : o.guard = none) (x y : Operand) (ho : o.op = .store 22 x y)
    (g : Nat) (hx : a.eval x = .pointer (some ⟨g, 49, none⟩)) (s : Stp) (n : Int) (hy : a.eval y = .int .u64 n) (hg : w.heap[g]? = some (.cells s.cells 58))
    (h : ∀ w2 : World, w2.heap[g]? = some (.cells ({ s with c := { s.c with pc := n } } : Stp).cells 58) → But g w w2 → wpList Tryz.prog ops Q rest (a.put o.dst undef) w2) : wpList Tryz.prog ops Q (o :: rest) a w := by
  refine wpList_store_int hgd 22 x y ho g 49 .u64 n hx hy (.int .u64 s.c.pc) (at_c hg 33 _ (by decide) s.c.a33) (frozen_of_row _ _ _ _ _ hg) size22 (h _ ?_ (but_setCell _ _ _ _))
  rw [heap_setCell_same _ _ _ _ _ _ hg, s.setPc]
set_option maxRecDepth 4000 in
set_option maxHeartbeats 4000000 in
theorem end_c (g : Nat) (i : Ins) (c d : Cor) (k : Gt) (p : Int) (w : World) (h : w.heap[g]? = some (.cells (Stp.cells ⟨i, c, k, 0⟩) 58)) (hp : IntKind.u64.wrap (c.pc + 4) = p)
    (hdo : ∀ w : World, w.heap[g]? = some (.cells (Stp.cells ⟨i, { c with pc := p }, k, 0⟩) 58) → Calls Tryz.prog 54 #[.pointer (some ⟨g, 0, none⟩)] w fun e w' => e = .returned (.tuple #[]) ∧ w'.heap[g]? = some (.cells (Stp.cells ⟨i, d, k, 0⟩) 58) ∧ But g w w') :
    Calls Tryz.prog 31 #[.pointer (some ⟨g, 0, none⟩)] w fun e w' => e = .returned (.tuple #[d.val, .int .i64 0]) ∧ But g w w' := by
  go_enter Tryz.func31, Tryz.ntmps31
  go_upto_region 1 with fail
  have hgw : g < w.heap.size := (Array.getElem?_eq_some_iff.1 h).1
  generalize hw1 : w.alloc _ = w1
  obtain ⟨Z, hZ, hb1⟩ : ∃ Z : Array Value, Z.size = 49 ∧ w1.heap[w.heap.size]? = some (.cells Z 26) := by
    refine ⟨_, ?_, by rw [← hw1]; exact heap_alloc_new _ _⟩
    rfl
  have hB1 : But g w w1 := by rw [← hw1]; exact but_alloc _
  have hs1 : w1.heap[g]? = some (.cells (Stp.cells ⟨i, c, k, 0⟩) 58) := by rw [← hw1]; exact keep_row h (r_below_alloc w _)
  clear hw1
  generalize hbb : w.heap.size = b at hb1 ⊢
  have c49 := at_c hs1 33 (.int .u64 c.pc) (by decide) c.a33
  go_upto_region 2 with ((with_reducible refine wpList_store_pc rfl _ _ rfl g rfl _ _ rfl hs1 ?_); intro w2 hs2 hB2; simp only [Act.put])
  replace hs2 : w2.heap[g]? = some (.cells (Stp.cells ⟨i, { c with pc := p }, k, 0⟩) 58) := hs2
  have hb2 := hB2.keep hb1 (by omega)
  go_upto_region 3 with (go_at_call 54; refine (hdo _ hs2).mono ?_; rintro e w3 ⟨rfl, hs3, hB3⟩; dsimp only)
  have hb3 := hB3.keep hb2 (by omega)
  have c68 := at_e hs3
  clear c49
  go_wp2_with (first | ((with_reducible refine wpList_load_core rfl _ rfl g rfl _ hs3 ?_); simp only [Act.put, List.setIfInBounds_toArray, List.set_cons_succ, List.set_cons_zero]) | ((with_reducible refine wpList_store_row rfl 26 _ _ rfl b _ rfl rfl 26 Z hb3 (Cor.info _) ?_ (Cor.one _) ?_); (focus (rw [hZ, Cor.size])); generalize hw4 : World.setRow _ b _ = w4; simp only [Act.put]))
  have hb4 : w4.heap[b]? = some (.cells d.cells 26 (0, 0)) := by rw [← hw4]; exact setRow_heap _ _ _ _ _ _ hb3
  refine bodyPost_ret (back_two rfl _ _ _ _ _ _ rfl hb4) rfl ⟨rfl, ?_⟩
  rw [← hw4]
  exact but_own ((hB1.trans hB2).trans hB3) (by omega)
end Go.Proofs.YtbjcdpmhmebjnaaGreat
/- What branches, Adr, Stxr, MsrMask and Hint do to a step: contracts. -/
namespace Go.Proofs.YtbjcdpmhmebjnaaGreat
open Go.RowKit
set_option linter.unusedVariables false

theorem e64 : 64 = 16 + 48 := rfl
theorem e63 : 63 = 16 + 47 := rfl
theorem e55 : 55 = 16 + 39 := rfl
/-- One cell of the state laid anew in the step. -/
theorem Stp.setK (s : Stp) (j : Nat) (hj : j < 49) (v : Value) (d : Cor) (hd : s.c.cells.setIfInBounds j v = d.cells) : s.cells.setIfInBounds (16 + j) v = ({ s with c := d } : Stp).cells := by
  unfold Stp.cells
  rw [Array.setIfInBounds_append_right (by simp), Array.setIfInBounds_append_left (by simp [Cor.size]; omega)]
  rw [show 16 + j - s.i.cells.size = j from by simp, hd]
theorem row_setK {w : World} {g : Nat} {s : Stp} (hg : w.heap[g]? = some (.cells s.cells 58)) (j : Nat) (hj : j < 49) (v : Value) (d : Cor) (hd : s.c.cells.setIfInBounds j v = d.cells) : (w.setCell ⟨g, 16 + j, none⟩ v).heap[g]? = some (.cells ({ s with c := d } : Stp).cells 58) := by
  rw [heap_setCell_same _ _ _ _ _ _ hg, s.setK j hj v d hd]
theorem wpList_store_ci {ops : Array Oper} {rest : List Oper} {o : Oper} {a : Act} {w : World} {Q : Exit → Act → World → Prop} (hgd : o.guard = none) (ty : TypeId) (x y : Operand) (ho : o.op = .store ty x y)
    (g q j : Nat) (K : IntKind) (n : Int) (hx : a.eval x = .pointer (some ⟨g, q, none⟩)) (hq : q = 16 + j) (hy : a.eval y = .int K n) (s : Stp) (hg : w.heap[g]? = some (.cells s.cells 58)) (hj : j < 49) (old : Value) (hold : s.c.cells[j]? = some old) (hi : (Tryz.prog.info? ty).map (·.size) = some 1) (d : Cor) (hd : s.c.cells.setIfInBounds j (.int K n) = d.cells)
    (h : ∀ w2 : World, w2.heap[g]? = some (.cells ({ s with c := d } : Stp).cells 58) → But g w w2 → wpList Tryz.prog ops Q rest (a.put o.dst undef) w2) : wpList Tryz.prog ops Q (o :: rest) a w :=
  wpList_store_int hgd ty x y ho g (16 + j) K n (hq ▸ hx) hy old (at_c hg j _ hj hold) (frozen_of_row _ _ _ _ _ hg) hi (h _ (row_setK hg j hj _ d hd) (but_setCell _ _ _ _))
theorem wpList_store_cb {ops : Array Oper} {rest : List Oper} {o : Oper} {a : Act} {w : World} {Q : Exit → Act → World → Prop} (hgd : o.guard = none) (x y : Operand) (ho : o.op = .store 4 x y)
    (g q j : Nat) (n : Bool) (hx : a.eval x = .pointer (some ⟨g, q, none⟩)) (hq : q = 16 + j) (hy : a.eval y = .bool n) (s : Stp) (hg : w.heap[g]? = some (.cells s.cells 58)) (hj : j < 49) (old : Value) (hold : s.c.cells[j]? = some old) (d : Cor) (hd : s.c.cells.setIfInBounds j (.bool n) = d.cells)
    (h : ∀ w2 : World, w2.heap[g]? = some (.cells ({ s with c := d } : Stp).cells 58) → But g w w2 → wpList Tryz.prog ops Q rest (a.put o.dst undef) w2) : wpList Tryz.prog ops Q (o :: rest) a w :=
  wpList_store_bool hgd 4 x y ho g (16 + j) n (hq ▸ hx) hy old (at_c hg j _ hj hold) (frozen_of_row _ _ _ _ _ hg) size4 (h _ (row_setK hg j hj _ d hd) (but_setCell _ _ _ _))
set_option maxHeartbeats 1000000 in
theorem at_pc (g : Nat) (i : Ins) (c : Cor) (k : Gt) (e a : Int) (w : World) (h : w.heap[g]? = some (.cells (Stp.cells ⟨i, c, k, e⟩) 58)) (ha : IntKind.u64.wrap (c.pc - 4) = a) : Calls Tryz.prog 204 #[.pointer (some ⟨g, 0, none⟩)] w fun e2 w' => e2 = .returned (.int .u64 a) ∧ w' = w := by
  have c33 := at_c h 33 (.int .u64 c.pc) (by decide) c.a33
  go_enter Tryz.func204, Tryz.ntmps204
  go_wp2
  go_ret
  exact ⟨rfl, rfl⟩
set_option maxRecDepth 4000 in
set_option maxHeartbeats 2000000 in
theorem storedEx_Y (g : Nat) (i : Ins) (c : Cor) (k : Gt) (e : Int) (w : World) (h : w.heap[g]? = some (.cells (Stp.cells ⟨i, c, k, e⟩) 58)) (hk : k.ok = true) : Calls Tryz.prog 143 #[.pointer (some ⟨g, 0, none⟩)] w fun e2 w' => e2 = .returned (.tuple #[]) ∧ w'.heap[g]? = some (.cells (Stp.cells ⟨i, setXV c i.rm 0, k, e⟩) 58) ∧ But g w w' := by
  have cg := at_g h 1 (.bool k.ok) (by decide) rfl
  rw [hk] at cg
  have c4 := at_i h 4 (.int .i64 i.rm) (by decide) rfl
  go_enter Tryz.func143, Tryz.ntmps143
  go_wp2_with (go_at_call 196; refine (setX_c g _ _ _ _ h).mono ?_; rintro e2 w1 ⟨rfl, hs, hB⟩; dsimp only)
  first | go_end0 | ((try simp only [Exit.inBlock, Exit.then]); refine bodyPost_ret (results_none rfl _ _ _) rfl ?_)
  exact ⟨rfl, hs, hB⟩
set_option maxRecDepth 4000 in
set_option maxHeartbeats 2000000 in
theorem storedEx_N (g : Nat) (i : Ins) (c : Cor) (k : Gt) (e : Int) (w : World) (h : w.heap[g]? = some (.cells (Stp.cells ⟨i, c, k, e⟩) 58)) (hk : k.ok = false) : Calls Tryz.prog 143 #[.pointer (some ⟨g, 0, none⟩)] w fun e2 w' => e2 = .returned (.tuple #[]) ∧ w'.heap[g]? = some (.cells (Stp.cells ⟨i, setXV c i.rm 1, k, e⟩) 58) ∧ But g w w' := by
  have cg := at_g h 1 (.bool k.ok) (by decide) rfl
  rw [hk] at cg
  have c4 := at_i h 4 (.int .i64 i.rm) (by decide) rfl
  go_enter Tryz.func143, Tryz.ntmps143
  go_wp2_with (go_at_call 196; refine (setX_c g _ _ _ _ h).mono ?_; rintro e2 w1 ⟨rfl, hs, hB⟩; dsimp only)
  first | go_end0 | ((try simp only [Exit.inBlock, Exit.then]); refine bodyPost_ret (results_none rfl _ _ _) rfl ?_)
  exact ⟨rfl, hs, hB⟩
set_option maxRecDepth 4000 in
set_option maxHeartbeats 2000000 in
theorem waitEv_Y (g : Nat) (i : Ins) (c : Cor) (k : Gt) (e : Int) (w : World) (h : w.heap[g]? = some (.cells (Stp.cells ⟨i, c, k, e⟩) 58)) (hv : Hid (c.event = true)) : Calls Tryz.prog 209 #[.pointer (some ⟨g, 0, none⟩)] w fun e2 w' => e2 = .returned (.tuple #[]) ∧ w'.heap[g]? = some (.cells (Stp.cells ⟨i, { c with event := false }, k, e⟩) 58) ∧ But g w w' := by
  have c48 := at_c h 48 (.bool c.event) (by decide) c.a48
  rw [hv.out] at c48
  go_enter Tryz.func209, Tryz.ntmps209
  go_wp2_with ((with_reducible refine wpList_store_cb rfl _ _ rfl g 64 48 _ rfl e64 rfl _ h (by decide) _ c.a48 _ (c.s48 _) ?_); intro w3 hs hB; simp only [Act.put])
  first | go_end0 | ((try simp only [Exit.inBlock, Exit.then]); refine bodyPost_ret (results_none rfl _ _ _) rfl ?_)
  exact ⟨rfl, hs, hB⟩
set_option maxRecDepth 4000 in
set_option maxHeartbeats 2000000 in
theorem waitEv_N (g : Nat) (i : Ins) (c : Cor) (k : Gt) (e : Int) (w : World) (h : w.heap[g]? = some (.cells (Stp.cells ⟨i, c, k, e⟩) 58)) (hv : Hid (c.event = false)) : Calls Tryz.prog 209 #[.pointer (some ⟨g, 0, none⟩)] w fun e2 w' => e2 = .returned (.tuple #[]) ∧ w'.heap[g]? = some (.cells (Stp.cells ⟨i, { c with wait := 2 }, k, e⟩) 58) ∧ But g w w' := by
  have c48 := at_c h 48 (.bool c.event) (by decide) c.a48
  rw [hv.out] at c48
  go_enter Tryz.func209, Tryz.ntmps209
  go_wp2_with ((with_reducible refine wpList_store_ci rfl 3 _ _ rfl g 63 47 .i64 _ rfl e63 rfl _ h (by decide) _ c.a47 size3 _ (c.s47 _) ?_); intro w3 hs hB; simp only [Act.put])
  first | go_end0 | ((try simp only [Exit.inBlock, Exit.then]); refine bodyPost_ret (results_none rfl _ _ _) rfl ?_)
  exact ⟨rfl, hs, hB⟩
set_option maxRecDepth 4000 in
set_option maxHeartbeats 2000000 in
theorem hint_2Y (g : Nat) (i : Ins) (c : Cor) (k : Gt) (e : Int) (w : World) (h : w.heap[g]? = some (.cells (Stp.cells ⟨i, c, k, e⟩) 58)) (hi : i.imm = 2) (hv : Hid (c.event = true)) : Calls Tryz.prog 148 #[.pointer (some ⟨g, 0, none⟩)] w fun e2 w' => e2 = .returned (.tuple #[]) ∧ w'.heap[g]? = some (.cells (Stp.cells ⟨i, { c with event := false }, k, e⟩) 58) ∧ But g w w' := by
  have c6 := at_i h 6 (.int .i64 i.imm) (by decide) rfl
  rw [hi] at c6
  go_enter Tryz.func148, Tryz.ntmps148
  go_wp2_with (go_at_call 209; refine (waitEv_Y g i c k e _ h hv).mono ?_; rintro e2 w3 ⟨rfl, hs, hB⟩; dsimp only)
  first | go_end0 | ((try simp only [Exit.inBlock, Exit.then]); refine bodyPost_ret (results_none rfl _ _ _) rfl ?_)
  exact ⟨rfl, hs, hB⟩
set_option maxRecDepth 4000 in
set_option maxHeartbeats 2000000 in
theorem hint_2N (g : Nat) (i : Ins) (c : Cor) (k : Gt) (e : Int) (w : World) (h : w.heap[g]? = some (.cells (Stp.cells ⟨i, c, k, e⟩) 58)) (hi : i.imm = 2) (hv : Hid (c.event = false)) : Calls Tryz.prog 148 #[.pointer (some ⟨g, 0, none⟩)] w fun e2 w' => e2 = .returned (.tuple #[]) ∧ w'.heap[g]? = some (.cells (Stp.cells ⟨i, { c with wait := 2 }, k, e⟩) 58) ∧ But g w w' := by
  have c6 := at_i h 6 (.int .i64 i.imm) (by decide) rfl
  rw [hi] at c6
  go_enter Tryz.func148, Tryz.ntmps148
  go_wp2_with (go_at_call 209; refine (waitEv_N g i c k e _ h hv).mono ?_; rintro e2 w3 ⟨rfl, hs, hB⟩; dsimp only)
  first | go_end0 | ((try simp only [Exit.inBlock, Exit.then]); refine bodyPost_ret (results_none rfl _ _ _) rfl ?_)
  exact ⟨rfl, hs, hB⟩
set_option maxRecDepth 4000 in
set_option maxHeartbeats 2000000 in
theorem hint_3 (g : Nat) (i : Ins) (c : Cor) (k : Gt) (e : Int) (w : World) (h : w.heap[g]? = some (.cells (Stp.cells ⟨i, c, k, e⟩) 58)) (hi : i.imm = 3) : Calls Tryz.prog 148 #[.pointer (some ⟨g, 0, none⟩)] w fun e2 w' => e2 = .returned (.tuple #[]) ∧ w'.heap[g]? = some (.cells (Stp.cells ⟨i, { c with wait := 1 }, k, e⟩) 58) ∧ But g w w' := by
  have c6 := at_i h 6 (.int .i64 i.imm) (by decide) rfl
  rw [hi] at c6
  go_enter Tryz.func148, Tryz.ntmps148
  go_wp2_with ((with_reducible refine wpList_store_ci rfl 3 _ _ rfl g 63 47 .i64 _ rfl e63 rfl _ h (by decide) _ c.a47 size3 _ (c.s47 _) ?_); intro w3 hs hB; simp only [Act.put])
  first | go_end0 | ((try simp only [Exit.inBlock, Exit.then]); refine bodyPost_ret (results_none rfl _ _ _) rfl ?_)
  exact ⟨rfl, hs, hB⟩
set_option maxRecDepth 4000 in
set_option maxHeartbeats 2000000 in
theorem hint_4 (g : Nat) (i : Ins) (c : Cor) (k : Gt) (e : Int) (w : World) (h : w.heap[g]? = some (.cells (Stp.cells ⟨i, c, k, e⟩) 58)) (hi : i.imm = 4) : Calls Tryz.prog 148 #[.pointer (some ⟨g, 0, none⟩)] w fun e2 w' => e2 = .returned (.tuple #[]) ∧ w'.heap[g]? = some (.cells (Stp.cells ⟨i, { c with event := true }, k, e⟩) 58) ∧ But g w w' := by
  have c6 := at_i h 6 (.int .i64 i.imm) (by decide) rfl
  rw [hi] at c6
  go_enter Tryz.func148, Tryz.ntmps148
  go_wp2_with ((with_reducible refine wpList_store_cb rfl _ _ rfl g 64 48 _ rfl e64 rfl _ h (by decide) _ c.a48 _ (c.s48 _) ?_); intro w3 hs hB; simp only [Act.put])
  first | go_end0 | ((try simp only [Exit.inBlock, Exit.then]); refine bodyPost_ret (results_none rfl _ _ _) rfl ?_)
  exact ⟨rfl, hs, hB⟩
set_option maxRecDepth 4000 in
set_option maxHeartbeats 2000000 in
theorem hint_5 (g : Nat) (i : Ins) (c : Cor) (k : Gt) (e : Int) (w : World) (h : w.heap[g]? = some (.cells (Stp.cells ⟨i, c, k, e⟩) 58)) (hi : i.imm = 5) : Calls Tryz.prog 148 #[.pointer (some ⟨g, 0, none⟩)] w fun e2 w' => e2 = .returned (.tuple #[]) ∧ w'.heap[g]? = some (.cells (Stp.cells ⟨i, { c with event := true }, k, e⟩) 58) ∧ But g w w' := by
  have c6 := at_i h 6 (.int .i64 i.imm) (by decide) rfl
  rw [hi] at c6
  go_enter Tryz.func148, Tryz.ntmps148
  go_wp2_with ((with_reducible refine wpList_store_cb rfl _ _ rfl g 64 48 _ rfl e64 rfl _ h (by decide) _ c.a48 _ (c.s48 _) ?_); intro w3 hs hB; simp only [Act.put])
  first | go_end0 | ((try simp only [Exit.inBlock, Exit.then]); refine bodyPost_ret (results_none rfl _ _ _) rfl ?_)
  exact ⟨rfl, hs, hB⟩
set_option maxRecDepth 4000 in
set_option maxHeartbeats 2000000 in
theorem hint_0 (g : Nat) (i : Ins) (c : Cor) (k : Gt) (e : Int) (w : World) (h : w.heap[g]? = some (.cells (Stp.cells ⟨i, c, k, e⟩) 58)) (h2 : (i.imm == 2) = false) (h3 : (i.imm == 3) = false) (h4 : (i.imm == 4) = false) (h5 : (i.imm == 5) = false) : Calls Tryz.prog 148 #[.pointer (some ⟨g, 0, none⟩)] w fun e2 w' => e2 = .returned (.tuple #[]) ∧ w'.heap[g]? = some (.cells (Stp.cells ⟨i, c, k, e⟩) 58) ∧ But g w w' := by
  have c6 := at_i h 6 (.int .i64 i.imm) (by decide) rfl
  go_enter Tryz.func148, Tryz.ntmps148
  go_wp2
  first | go_end0 | ((try simp only [Exit.inBlock, Exit.then]); refine bodyPost_ret (results_none rfl _ _ _) rfl ?_)
  exact ⟨rfl, h, But.refl _ _⟩
set_option maxHeartbeats 1000000 in
theorem jump_N (g : Nat) (i : Ins) (c : Cor) (k : Gt) (e : Int) (w : World) (h : w.heap[g]? = some (.cells (Stp.cells ⟨i, c, k, e⟩) 58)) : Calls Tryz.prog 205 #[.pointer (some ⟨g, 0, none⟩), .bool false] w fun e2 w' => e2 = .returned (.tuple #[]) ∧ w'.heap[g]? = some (.cells (Stp.cells ⟨i, c, k, e⟩) 58) ∧ But g w w' := by
  go_enter Tryz.func205, Tryz.ntmps205
  go_wp2
  first | go_end0 | ((try simp only [Exit.inBlock, Exit.then]); refine bodyPost_ret (results_none rfl _ _ _) rfl ?_)
  exact ⟨rfl, h, But.refl _ _⟩
def pick2 (c d : Cor) : Nat → Cor
  | 0 => c
  | 1 => c
  | _ => d
theorem upon_store_pc {g : Nat} {i : Ins} {c : Cor} {k : Gt} {e b : Int} {w0 w : World} {o : Oper} {a : Act} {x y : Operand} (hC : Ph g i (pick2 c { c with pc := b }) k e w0 1 w) (ho : o.op = .store 22 x y := by rfl) (hx : a.eval x = .pointer (some ⟨g, 49, none⟩) := by rfl) (hy : a.eval y = .int .u64 b := by rfl) :
    Chn.upon Tryz.prog (fun v w' => v = undef ∧ Ph g i (pick2 c { c with pc := b }) k e w0 (1 + 1) w') w ((execOp a.eval o).run Tryz.prog w) := by
  have hg : w.heap[g]? = some (.cells (Stp.cells ⟨i, c, k, e⟩) 58) := hC.1
  have hs : (storeVar 22 ⟨g, 49, none⟩ (.int .u64 b)).run Tryz.prog w = .ok () (w.setCell ⟨g, 49, none⟩ (.int .u64 b)) := by
    have hi := size22
    cases hq : Tryz.prog.info? 22 with
    | none => simp [hq] at hi
    | some inf =>
      have hs : inf.size = 1 := by simpa [hq] using hi
      have hadd : (⟨g, 49, none⟩ : Addr).add 0 = ⟨g, 49, none⟩ := by unfold Addr.add; split <;> simp_all
      have hc : w.cell? ⟨g, 49, none⟩ = some (.int .u64 c.pc) := at_c hg 33 _ (by decide) c.a33
      have hf : w.frozen? ⟨g, 49, none⟩ = false := frozen_of_row _ _ _ _ _ hg
      have hst : (store ⟨g, 49, none⟩ (.int .u64 b) .plain).run Tryz.prog w = .ok () (w.setCell ⟨g, 49, none⟩ (.int .u64 b)) := by
        rw [run_store Tryz.prog w _ _ _ rfl, hc, hf]; rfl
      simp [storeVar, sizeOf, typeInfo, hq, hs, Value.cells, storeCells, hadd, hst]
  unfold execOp
  simp only [ho, hx, hy, Instr.storeAt, Instr.sureAddr, Sem.run_bind, Sem.run_pure, Result.andThen_ok, hs]
  refine ⟨rfl, hC.next ?_ (but_setCell _ _ _ _)⟩
  exact row_setK hg 33 (by decide) _ _ (c.s33 b)
set_option maxRecDepth 4000 in
set_option maxHeartbeats 2000000 in
theorem jump_Y (g : Nat) (i : Ins) (c : Cor) (k : Gt) (e : Int) (w : World) (h : w.heap[g]? = some (.cells (Stp.cells ⟨i, c, k, e⟩) 58)) (a m b : Int) (ha : IntKind.u64.wrap (c.pc - 4) = a) (hm : i.imm % 18446744073709551616 = m) (hb : (a + m) % 18446744073709551616 = b) : Calls Tryz.prog 205 #[.pointer (some ⟨g, 0, none⟩), .bool true] w fun e2 w' => e2 = .returned (.tuple #[]) ∧ w'.heap[g]? = some (.cells (Stp.cells ⟨i, { c with pc := b }, k, e⟩) 58) ∧ But g w w' := by
  go_enter Tryz.func205, Tryz.ntmps205
  go_upto_region 1 with fail
  refine Chn.wp_region_chain (Ph g i (pick2 c { c with pc := b }) k e w) [2, 13] [(.pointer (some ⟨g, 0, none⟩)), (.pointer (some ⟨g, 0, none⟩)), (.int .u64 a), (.pointer (some ⟨g, 0, none⟩)), (.pointer (some ⟨g, 0, none⟩)), (.pointer (some ⟨g, 0, none⟩)), (.pointer (some ⟨g, 6, none⟩)), (.int .i64 i.imm), (.int .u64 m), (.int .u64 b), (.pointer (some ⟨g, 0, none⟩)), (.pointer (some ⟨g, 16, none⟩)), (.pointer (some ⟨g, 49, none⟩)), undef] (by kernel_rfl) (by kernel_rfl) (by kernel_rfl) (by kernel_rfl) (ph_start h) ?_
  refine ⟨fun j w1 hC => by exact Chn.upon_pure hC (fun F hF => by (go_simp <;> exact hF)), ?_⟩
  simp only [Act.put, List.setIfInBounds_toArray, List.set_cons_succ, List.set_cons_zero]
  refine ⟨fun j w1 hC => by exact Chn.upon_pure hC (fun F hF => by (go_simp <;> exact hF)), ?_⟩
  simp only [Act.put, List.setIfInBounds_toArray, List.set_cons_succ, List.set_cons_zero]
  refine ⟨fun w1 hC => by exact Chn.upon_call (at_pc g i c k e a w1 hC.1 ha) (fun e2 w2 hh => ⟨hh.1, hC.same rfl (by rw [hh.2]; exact Below.refl _ _)⟩) (fun F hF => by (go_simp <;> exact hF)), ?_⟩
  simp only [Act.put, List.setIfInBounds_toArray, List.set_cons_succ, List.set_cons_zero]
  refine ⟨fun j w1 hC => by exact Chn.upon_pure hC (fun F hF => by (go_simp <;> exact hF)), ?_⟩
  simp only [Act.put, List.setIfInBounds_toArray, List.set_cons_succ, List.set_cons_zero]
  refine ⟨fun j w1 hC => by exact Chn.upon_pure hC (fun F hF => by (go_simp <;> exact hF)), ?_⟩
  simp only [Act.put, List.setIfInBounds_toArray, List.set_cons_succ, List.set_cons_zero]
  refine ⟨fun j w1 hC => by exact Chn.upon_pure hC (fun F hF => by (go_simp <;> exact hF)), ?_⟩
  simp only [Act.put, List.setIfInBounds_toArray, List.set_cons_succ, List.set_cons_zero]
  refine ⟨fun j w1 hC => by exact Chn.upon_pure hC (fun F hF => by (go_simp <;> exact hF)), ?_⟩
  simp only [Act.put, List.setIfInBounds_toArray, List.set_cons_succ, List.set_cons_zero]
  refine ⟨fun j w1 hC => by have hq := at_i hC.1 6 (.int .i64 i.imm) (by decide) rfl; exact Chn.upon_pure hC (fun F hF => by (go_simp <;> exact hF)), ?_⟩
  simp only [Act.put, List.setIfInBounds_toArray, List.set_cons_succ, List.set_cons_zero]
  refine ⟨fun j w1 hC => by exact Chn.upon_int hC (IntKind.u64.wrap i.imm) (by rw [wrapU]; exact hm) (fun F hF => by (go_simp <;> exact hF)), ?_⟩
  simp only [Act.put, List.setIfInBounds_toArray, List.set_cons_succ, List.set_cons_zero]
  refine ⟨fun j w1 hC => by exact Chn.upon_int hC (IntKind.u64.wrap (a + m)) (by rw [wrapU]; exact hb) (fun F hF => by (go_simp <;> exact hF)), ?_⟩
  simp only [Act.put, List.setIfInBounds_toArray, List.set_cons_succ, List.set_cons_zero]
  refine ⟨fun j w1 hC => by exact Chn.upon_pure hC (fun F hF => by (go_simp <;> exact hF)), ?_⟩
  simp only [Act.put, List.setIfInBounds_toArray, List.set_cons_succ, List.set_cons_zero]
  refine ⟨fun j w1 hC => by exact Chn.upon_pure hC (fun F hF => by (go_simp <;> exact hF)), ?_⟩
  simp only [Act.put, List.setIfInBounds_toArray, List.set_cons_succ, List.set_cons_zero]
  refine ⟨fun j w1 hC => by exact Chn.upon_pure hC (fun F hF => by (go_simp <;> exact hF)), ?_⟩
  simp only [Act.put, List.setIfInBounds_toArray, List.set_cons_succ, List.set_cons_zero]
  refine ⟨fun w1 hC => by exact upon_store_pc hC, ?_⟩
  simp only [Act.put]
  intro w2 hC
  go_wp2
  first | go_end0 | ((try simp only [Exit.inBlock, Exit.then]); refine bodyPost_ret (results_none rfl _ _ _) rfl ?_)
  exact ⟨rfl, hC⟩
set_option maxRecDepth 4000 in
set_option maxHeartbeats 2000000 in
theorem branch_N (g : Nat) (i : Ins) (c : Cor) (k : Gt) (e : Int) (w : World) (h : w.heap[g]? = some (.cells (Stp.cells ⟨i, c, k, e⟩) 58)) (hl : i.link = false) (a m b : Int) (ha : IntKind.u64.wrap (c.pc - 4) = a) (hm : i.imm % 18446744073709551616 = m) (hb : (a + m) % 18446744073709551616 = b) : Calls Tryz.prog 137 #[.pointer (some ⟨g, 0, none⟩)] w fun e2 w' => e2 = .returned (.tuple #[]) ∧ w'.heap[g]? = some (.cells (Stp.cells ⟨i, { c with pc := b }, k, e⟩) 58) ∧ But g w w' := by
  have c15 := at_i h 15 (.bool i.link) (by decide) rfl
  rw [hl] at c15
  go_enter Tryz.func137, Tryz.ntmps137
  go_wp2_with (go_at_call 205; refine (jump_Y g i c k e _ h a m b ha hm hb).mono ?_; rintro e2 w3 ⟨rfl, hs, hB⟩; dsimp only)
  first | go_end0 | ((try simp only [Exit.inBlock, Exit.then]); refine bodyPost_ret (results_none rfl _ _ _) rfl ?_)
  exact ⟨rfl, hs, hB⟩
set_option maxRecDepth 4000 in
set_option maxHeartbeats 2000000 in
theorem branch_L (g : Nat) (i : Ins) (c : Cor) (k : Gt) (e : Int) (w : World) (h : w.heap[g]? = some (.cells (Stp.cells ⟨i, c, k, e⟩) 58)) (hl : i.link = true) (d : Cor) (hd : setXV c 30 c.pc = d) (a m b : Int) (ha : IntKind.u64.wrap (d.pc - 4) = a) (hm : i.imm % 18446744073709551616 = m) (hb : (a + m) % 18446744073709551616 = b) : Calls Tryz.prog 137 #[.pointer (some ⟨g, 0, none⟩)] w fun e2 w' => e2 = .returned (.tuple #[]) ∧ w'.heap[g]? = some (.cells (Stp.cells ⟨i, { d with pc := b }, k, e⟩) 58) ∧ But g w w' := by
  have c15 := at_i h 15 (.bool i.link) (by decide) rfl
  rw [hl] at c15
  have c33 := at_c h 33 (.int .u64 c.pc) (by decide) c.a33
  go_enter Tryz.func137, Tryz.ntmps137
  go_upto_region 2 with (go_at_call 196; refine (setX_c g _ _ _ _ h).mono ?_; rintro e2 w2 ⟨rfl, hs2, hB2⟩; dsimp only)
  replace hs2 : w2.heap[g]? = some (.cells (Stp.cells ⟨i, d, k, e⟩) 58) := by rw [hs2]; show some (Obj.cells (Stp.cells ⟨i, setXV c 30 c.pc, k, e⟩) 58) = _; rw [hd]
  go_wp2_with (go_at_call 205; refine (jump_Y g i d k e _ hs2 a m b ha hm hb).mono ?_; rintro e2 w3 ⟨rfl, hs, hB⟩; dsimp only)
  first | go_end0 | ((try simp only [Exit.inBlock, Exit.then]); refine bodyPost_ret (results_none rfl _ _ _) rfl ?_)
  exact ⟨rfl, hs, hB2.trans hB⟩
set_option maxRecDepth 4000 in
set_option maxHeartbeats 2000000 in
theorem branchTo_N (g : Nat) (i : Ins) (c : Cor) (k : Gt) (e : Int) (w : World) (h : w.heap[g]? = some (.cells (Stp.cells ⟨i, c, k, e⟩) 58)) (h1 : (i.sub == 1) = false) : Calls Tryz.prog 141 #[.pointer (some ⟨g, 0, none⟩)] w fun e2 w' => e2 = .returned (.tuple #[]) ∧ w'.heap[g]? = some (.cells (Stp.cells ⟨i, { c with pc := xV c i.rn }, k, e⟩) 58) ∧ But g w w' := by
  have c3 := at_i h 3 (.int .i64 i.rn) (by decide) rfl
  go_enter Tryz.func141, Tryz.ntmps141
  go_upto_region 1 with (go_at_call 184; refine (sx_c g _ _ _ h).mono ?_; rintro e2 w2 ⟨rfl, hB2⟩; dsimp only)
  have hs2 := keep_row h hB2
  have c1 := at_i hs2 1 (.int .i64 i.sub) (by decide) rfl
  go_wp2_with ((with_reducible refine wpList_store_pc rfl _ _ rfl g rfl _ _ rfl hs2 ?_); intro w3 hs hB; simp only [Act.put])
  first | go_end0 | ((try simp only [Exit.inBlock, Exit.then]); refine bodyPost_ret (results_none rfl _ _ _) rfl ?_)
  exact ⟨rfl, hs, (but_below hB2).trans hB⟩
set_option maxRecDepth 4000 in
set_option maxHeartbeats 2000000 in
theorem msrMask_N (g : Nat) (i : Ins) (c : Cor) (k : Gt) (e : Int) (w : World) (h : w.heap[g]? = some (.cells (Stp.cells ⟨i, c, k, e⟩) 58)) (hi : (bits .and .i64 i.imm 2 != 0) = false) : Calls Tryz.prog 146 #[.pointer (some ⟨g, 0, none⟩)] w fun e2 w' => e2 = .returned (.tuple #[]) ∧ w'.heap[g]? = some (.cells (Stp.cells ⟨i, c, k, e⟩) 58) ∧ But g w w' := by
  have c6 := at_i h 6 (.int .i64 i.imm) (by decide) rfl
  go_enter Tryz.func146, Tryz.ntmps146
  go_wp2
  first | go_end0 | ((try simp only [Exit.inBlock, Exit.then]); refine bodyPost_ret (results_none rfl _ _ _) rfl ?_)
  exact ⟨rfl, h, But.refl _ _⟩
set_option maxRecDepth 4000 in
set_option maxHeartbeats 2000000 in
theorem msrMask_Y (g : Nat) (i : Ins) (c : Cor) (k : Gt) (e : Int) (w : World) (h : w.heap[g]? = some (.cells (Stp.cells ⟨i, c, k, e⟩) 58)) (hi : (bits .and .i64 i.imm 2 != 0) = true) : Calls Tryz.prog 146 #[.pointer (some ⟨g, 0, none⟩)] w fun e2 w' => e2 = .returned (.tuple #[]) ∧ w'.heap[g]? = some (.cells (Stp.cells ⟨i, { c with mask := i.sub == 0 }, k, e⟩) 58) ∧ But g w w' := by
  have c6 := at_i h 6 (.int .i64 i.imm) (by decide) rfl
  have c1 := at_i h 1 (.int .i64 i.sub) (by decide) rfl
  go_enter Tryz.func146, Tryz.ntmps146
  go_wp2_with ((with_reducible refine wpList_store_cb rfl _ _ rfl g 55 39 _ rfl e55 rfl _ h (by decide) _ c.a39 _ (c.s39 _) ?_); intro w3 hs hB; simp only [Act.put])
  first | go_end0 | ((try simp only [Exit.inBlock, Exit.then]); refine bodyPost_ret (results_none rfl _ _ _) rfl ?_)
  exact ⟨rfl, hs, hB⟩
end Go.Proofs.YtbjcdpmhmebjnaaGreat
