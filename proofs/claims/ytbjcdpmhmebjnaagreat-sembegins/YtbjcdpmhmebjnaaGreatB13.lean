/- What is done to a step's state: contracts. -/
import Derived.Test.YtbjcdpmhmebjnaaGreatB03
import Derived.Test.YtbjcdpmhmebjnaaGreatB12
import Derived.Test.YtbjcdpmhmebjnaaGreatB04
import Derived.Test.YtbjcdpmhmebjnaaGreatB11
namespace Go.Proofs.YtbjcdpmhmebjnaaGreat
open Go.RowKit
set_option linter.unusedVariables false

/-- Of what was there one block alone may have turned. -/
structure But (g : Nat) (w w' : World) : Prop where
  os : w'.os = w.os
  tape : w'.tape = w.tape
  output : w'.output = w.output
  size : w.heap.size ≤ w'.heap.size
  block : ∀ k, k < w.heap.size → k ≠ g → w'.heap[k]? = w.heap[k]?
theorem But.refl (g : Nat) (w : World) : But g w w := ⟨rfl, rfl, rfl, Nat.le_refl _, fun _ _ _ => rfl⟩
theorem But.trans {g : Nat} {w x y : World} (h : But g w x) (k : But g x y) : But g w y :=
  ⟨k.os.trans h.os, k.tape.trans h.tape, k.output.trans h.output, Nat.le_trans h.size k.size, fun j hj hn => (k.block j (Nat.lt_of_lt_of_le hj h.size) hn).trans (h.block j hj hn)⟩
theorem but_below {g : Nat} {w x : World} (h : Below w.heap.size w x) : But g w x := ⟨h.os, h.tape, h.output, h.size, fun k hk _ => h.block k hk⟩
theorem but_setRow (g : Nat) (w : World) (cs : Array Value) : But g w (w.setRow g cs) := ⟨rfl, rfl, rfl, by rw [size_setRow]; exact Nat.le_refl _, fun k _ hn => setRow_other _ _ _ _ hn⟩
theorem but_setCell (g j : Nat) (w : World) (v : Value) : But g w (w.setCell ⟨g, j, none⟩ v) := ⟨rfl, rfl, rfl, by simp, fun k _ hn => heap_setCell_other _ _ _ _ hn⟩
theorem But.drew {g : Nat} {w x : World} (h : But g w x) : But g w { x with drawn := x.drawn + 1 } := ⟨h.os, h.tape, h.output, h.size, h.block⟩
/-- A block of one's own that was not there: nothing of what was there has turned. -/
theorem But.below {g : Nat} {w x y : World} (h : Below w.heap.size w x) (k : But g x y) (hg : w.heap.size ≤ g) : Below w.heap.size w y :=
  ⟨k.os.trans h.os, k.tape.trans h.tape, k.output.trans h.output, Nat.le_trans h.size k.size, fun j hj => (k.block j (Nat.lt_of_lt_of_le hj h.size) (by omega)).trans (h.block j hj)⟩
theorem But.keep {g b : Nat} {w x : World} {o : Obj} (h : But g w x) (hb : w.heap[b]? = some o) (hn : b ≠ g) : x.heap[b]? = some o := by
  rw [h.block _ (Array.getElem?_eq_some_iff.1 hb).1 hn]; exact hb
/-- A state laid into the step. -/
theorem wpList_store_core {ops : Array Oper} {rest : List Oper} {o : Oper} {a : Act} {w : World} {Q : Exit → Act → World → Prop} (hgd : o.guard = none) (x y : Operand) (ho : o.op = .store 26 x y)
    (g : Nat) (hx : a.eval x = .pointer (some ⟨g, 16, none⟩)) (s : Stp) (d : Cor) (hy : a.eval y = .agg d.cells) (hg : w.heap[g]? = some (.cells s.cells 58))
    (h : ∀ w2 : World, w2.heap[g]? = some (.cells ({ s with c := d } : Stp).cells 58) → But g w w2 → wpList Tryz.prog ops Q rest (a.put o.dst undef) w2) : wpList Tryz.prog ops Q (o :: rest) a w := by
  refine wpList_plain hgd fun K hK => ?_
  have e49 : d.cells.toList.length = 49 := by rw [Array.length_toList, Cor.size]
  have hst : (storeVar 26 ⟨g, 16, none⟩ (.agg d.cells)).run Tryz.prog w = .ok () (w.setRow g ({ s with c := d } : Stp).cells) := by
    have := run_storeCells_at (P := Tryz.prog) g 16 58 d.cells.toList 0 s.cells w hg (by rw [e49, s.size]; decide) (fun v hv => by
      have := Array.all_eq_true_iff_forall_mem.1 d.one v (by simpa using hv); exact this)
    rw [e49] at this
    have e := s.setC d
    simp only [Nat.add_zero] at this
    rw [e] at this
    have hi := d.info
    cases hq : Tryz.prog.info? 26 with
    | none => simp [hq] at hi
    | some inf =>
      have hs : d.cells.size = inf.size := by simp [hq] at hi; omega
      simp [storeVar, sizeOf, typeInfo, hq, Value.cells, hs, this]
  unfold Oper.wp execOp
  simp only [ho, hx, hy, Instr.storeAt, Instr.sureAddr, Sem.run_bind, Sem.run_pure, Result.andThen_ok, hst]
  exact hK _ _ (h _ (setRow_heap _ _ _ _ _ _ hg) (but_setRow _ _ _))
set_option maxHeartbeats 1000000 in
theorem setX_c (g : Nat) (s : Stp) (r v : Int) (w : World) (h : w.heap[g]? = some (.cells s.cells 58)) : Calls Tryz.prog 196 #[.pointer (some ⟨g, 0, none⟩), .int .i64 r, .int .u64 v] w fun e w' => e = .returned (.tuple #[]) ∧ w'.heap[g]? = some (.cells ({ s with c := setXV s.c r v } : Stp).cells 58) ∧ But g w w' := by
  go_enter Tryz.func196, Tryz.ntmps196
  go_wp2_with (first | ((with_reducible refine wpList_load_core rfl _ rfl g rfl s h ?_); simp only [Act.put, List.setIfInBounds_toArray, List.set_cons_succ, List.set_cons_zero]) | (go_at_call 230; refine (SetX_c s.c _ _ _).mono ?_; rintro e w1 ⟨rfl, hB⟩; dsimp only; have hs1 := keep_row h hB) | ((with_reducible refine wpList_store_core rfl _ _ rfl g rfl s _ rfl hs1 ?_); intro w3 hs3 hB3; simp only [Act.put]))
  first | go_end0 | ((try simp only [Exit.inBlock, Exit.then]); refine bodyPost_ret (results_none rfl _ _ _) rfl ?_)
  exact ⟨rfl, hs3, (but_below hB).trans hB3⟩
set_option maxHeartbeats 1000000 in
theorem setSP_c (g : Nat) (s : Stp) (v : Int) (w : World) (h : w.heap[g]? = some (.cells s.cells 58)) : Calls Tryz.prog 226 #[.pointer (some ⟨g, 0, none⟩), .int .i64 31, .int .u64 v] w fun e w' => e = .returned (.tuple #[]) ∧ w'.heap[g]? = some (.cells ({ s with c := setSPV s.c v } : Stp).cells 58) ∧ But g w w' := by
  go_enter Tryz.func226, Tryz.ntmps226
  go_wp2_with (first | ((with_reducible refine wpList_load_core rfl _ rfl g rfl s h ?_); simp only [Act.put, List.setIfInBounds_toArray, List.set_cons_succ, List.set_cons_zero]) | (go_at_call 248; refine (SetSP_c s.c _ _).mono ?_; rintro e w1 ⟨rfl, hB⟩; dsimp only; have hs1 := keep_row h hB) | ((with_reducible refine wpList_store_core rfl _ _ rfl g rfl s _ rfl hs1 ?_); intro w3 hs3 hB3; simp only [Act.put]))
  first | go_end0 | ((try simp only [Exit.inBlock, Exit.then]); refine bodyPost_ret (results_none rfl _ _ _) rfl ?_)
  exact ⟨rfl, hs3, (but_below hB).trans hB3⟩
def pregV (c : Cor) (r v : Int) : Cor := if r = 31 then setSPV c v else setXV c r v
set_option maxHeartbeats 1000000 in
theorem setXOrSP_c (g : Nat) (s : Stp) (r v : Int) (w : World) (h : w.heap[g]? = some (.cells s.cells 58)) : Calls Tryz.prog 226 #[.pointer (some ⟨g, 0, none⟩), .int .i64 r, .int .u64 v] w fun e w' => e = .returned (.tuple #[]) ∧ w'.heap[g]? = some (.cells ({ s with c := pregV s.c r v } : Stp).cells 58) ∧ But g w w' := by
  unfold pregV
  by_cases h31 : r = 31
  · rw [if_pos h31, h31]
    exact setSP_c g s v w h
  · rw [if_neg h31]
    have e : (r != 31) = true := by simp [h31]
    go_enter Tryz.func226, Tryz.ntmps226
    go_wp2_with (go_at_call 196; refine (setX_c g s _ _ _ h).mono ?_; rintro e w1 ⟨rfl, hs, hB⟩; dsimp only)
    first | go_end0 | ((try simp only [Exit.inBlock, Exit.then]); refine bodyPost_ret (results_none rfl _ _ _) rfl ?_)
    exact ⟨rfl, hs, hB⟩
set_option maxHeartbeats 1000000 in
theorem setFlags_no (g : Nat) (s : Stp) (f : Flg) (w : World) (h : w.heap[g]? = some (.cells s.cells 58)) (hf : s.i.flags = false) : Calls Tryz.prog 228 #[.pointer (some ⟨g, 0, none⟩), f.val] w fun e w' => e = .returned (.tuple #[]) ∧ Below w.heap.size w w' := by
  go_enter Tryz.func228, Tryz.ntmps228
  go_upto_region 1 with fail
  have hB := r_below_alloc w (.cells f.cells 173)
  have hs := keep_row h hB
  generalize w.alloc _ = w1 at hB hs ⊢
  have c12 := at_i hs 12 (.bool s.i.flags) (by decide) rfl
  rw [hf] at c12
  go_wp2
  first | go_end0 | ((try simp only [Exit.inBlock, Exit.then]); refine bodyPost_ret (results_none rfl _ _ _) rfl ?_)
  exact ⟨rfl, hB⟩
set_option maxHeartbeats 1000000 in
theorem sum_no (g : Nat) (s : Stp) (a b : Int) (ha : Hid (U64 a)) (hb : Hid (U64 b)) (w : World) (h : w.heap[g]? = some (.cells s.cells 58)) (hf : s.i.flags = false) (hm : s.i.minus = false) : Calls Tryz.prog 194 #[.pointer (some ⟨g, 0, none⟩), .int .u64 a, .int .u64 b] w fun e w' => e = .returned (.int .u64 (sumV a b false)) ∧ Below w.heap.size w w' := by
  have c13 := at_i h 13 (.bool s.i.minus) (by decide) rfl
  rw [hm] at c13
  go_enter Tryz.func194, Tryz.ntmps194
  go_upto_region 4 with (first | (go_at_call 227; refine (Add_c _ _ _ ha hb _).mono ?_; rintro e w1 ⟨rfl, hB⟩; dsimp only; have H := (has_none w1)) | ((with_reducible refine wpList_store_new H rfl 173 _ _ rfl (addF a b false).cells rfl rfl (Flg.info _) ?_ (Flg.one _) ?_); (focus rfl); intro w2 H2; simp only [Act.put]))
  have hs := keep_row h (r_below_then hB H2.below)
  go_wp2_with (first | ((with_reducible refine wpList_load_ifA rfl 173 _ rfl _ rfl 173 _ (0, 0) _ (H2.get List.mem_cons_self) Tryz.underlying173 rfl (Flg.info _) ?_); simp only [Act.put, List.setIfInBounds_toArray, List.set_cons_succ, List.set_cons_zero]) | (go_at_call 228; refine (setFlags_no g s _ _ hs hf).mono ?_; rintro e w3 ⟨rfl, hB3⟩; dsimp only))
  go_ret
  exact ⟨rfl, r_below_then (r_below_then hB H2.below) hB3⟩
set_option maxHeartbeats 1000000 in
theorem setWithImm_no (g : Nat) (s : Stp) (v : Int) (w : World) (h : w.heap[g]? = some (.cells s.cells 58)) (hf : s.i.flags = false) : Calls Tryz.prog 193 #[.pointer (some ⟨g, 0, none⟩), .int .u64 v] w fun e w' => e = .returned (.tuple #[]) ∧ w'.heap[g]? = some (.cells ({ s with c := pregV s.c s.i.rd v } : Stp).cells 58) ∧ But g w w' := by
  have c12 := at_i h 12 (.bool s.i.flags) (by decide) rfl
  rw [hf] at c12
  have c2 := at_i h 2 (.int .i64 s.i.rd) (by decide) rfl
  go_enter Tryz.func193, Tryz.ntmps193
  go_wp2_with (go_at_call 226; refine (setXOrSP_c g s _ _ _ h).mono ?_; rintro e w1 ⟨rfl, hs, hB⟩; dsimp only)
  first | go_end0 | ((try simp only [Exit.inBlock, Exit.then]); refine bodyPost_ret (results_none rfl _ _ _) rfl ?_)
  exact ⟨rfl, hs, hB⟩
def pick3 (c d : Cor) : Nat → Cor
  | 0 => c
  | 1 => c
  | 2 => c
  | _ => d
/-- The step behind the first calls of a region. -/
def Ph (g : Nat) (i : Ins) (cj : Nat → Cor) (k : Gt) (e : Int) (w0 : World) (j : Nat) (w : World) : Prop := w.heap[g]? = some (.cells (Stp.cells ⟨i, cj j, k, e⟩) 58) ∧ But g w0 w
theorem ph_start {g : Nat} {i : Ins} {cj : Nat → Cor} {k : Gt} {e : Int} {w : World} (h : w.heap[g]? = some (.cells (Stp.cells ⟨i, cj 0, k, e⟩) 58)) : Ph g i cj k e w 0 { w with drawn := w.drawn + 1 } := ⟨h, (But.refl g w).drew⟩
theorem Ph.next {g : Nat} {i : Ins} {cj : Nat → Cor} {k : Gt} {e : Int} {w0 w w' : World} {j : Nat} (h : Ph g i cj k e w0 j w) (hs : w'.heap[g]? = some (.cells (Stp.cells ⟨i, cj (j + 1), k, e⟩) 58)) (hb : But g w w') : Ph g i cj k e w0 (j + 1) w' := ⟨hs, h.2.trans hb⟩
theorem Ph.same {g : Nat} {i : Ins} {cj : Nat → Cor} {k : Gt} {e : Int} {w0 w w' : World} {j : Nat} (h : Ph g i cj k e w0 j w) (he : cj (j + 1) = cj j) (hb : Below w.heap.size w w') : Ph g i cj k e w0 (j + 1) w' := ⟨by rw [he]; exact keep_row h.1 hb, h.2.trans (but_below hb)⟩
set_option maxRecDepth 4000 in
set_option maxHeartbeats 2000000 in
theorem loaded_c (g : Nat) (i : Ins) (c : Cor) (k : Gt) (e : Int) (w : World) (h : w.heap[g]? = some (.cells (Stp.cells ⟨i, c, k, e⟩) 58)) : Calls Tryz.prog 142 #[.pointer (some ⟨g, 0, none⟩)] w fun e2 w' => e2 = .returned (.tuple #[]) ∧ w'.heap[g]? = some (.cells (Stp.cells ⟨i, setXV c i.rd k.value, k, e⟩) 58) ∧ But g w w' := by
  go_enter Tryz.func142, Tryz.ntmps142
  refine Chn.wp_region_chain (Ph g i (fun j => if j = 0 then c else setXV c i.rd k.value) k e w) [11] [(.pointer (some ⟨g, 0, none⟩)), (.pointer (some ⟨g, 0, none⟩)), (.pointer (some ⟨g, 0, none⟩)), (.pointer (some ⟨g, 0, none⟩)), (.pointer (some ⟨g, 2, none⟩)), (.int .i64 i.rd), (.pointer (some ⟨g, 0, none⟩)), (.pointer (some ⟨g, 0, none⟩)), (.pointer (some ⟨g, 65, none⟩)), (.pointer (some ⟨g, 65, none⟩)), (.int .u64 k.value), (.tuple #[])] (by kernel_rfl) (by kernel_rfl) (by kernel_rfl) (by kernel_rfl) (ph_start h) ?_
  refine ⟨fun j w1 hC => by exact Chn.upon_pure hC (fun F hF => by (go_simp <;> exact hF)), ?_⟩
  simp only [Act.put, List.setIfInBounds_toArray, List.set_cons_succ, List.set_cons_zero]
  refine ⟨fun j w1 hC => by exact Chn.upon_pure hC (fun F hF => by (go_simp <;> exact hF)), ?_⟩
  simp only [Act.put, List.setIfInBounds_toArray, List.set_cons_succ, List.set_cons_zero]
  refine ⟨fun j w1 hC => by exact Chn.upon_pure hC (fun F hF => by (go_simp <;> exact hF)), ?_⟩
  simp only [Act.put, List.setIfInBounds_toArray, List.set_cons_succ, List.set_cons_zero]
  refine ⟨fun j w1 hC => by exact Chn.upon_pure hC (fun F hF => by (go_simp <;> exact hF)), ?_⟩
  simp only [Act.put, List.setIfInBounds_toArray, List.set_cons_succ, List.set_cons_zero]
  refine ⟨fun j w1 hC => by exact Chn.upon_pure hC (fun F hF => by (go_simp <;> exact hF)), ?_⟩
  simp only [Act.put, List.setIfInBounds_toArray, List.set_cons_succ, List.set_cons_zero]
  refine ⟨fun j w1 hC => by have hq := at_i hC.1 2 (.int .i64 i.rd) (by decide) rfl; exact Chn.upon_pure hC (fun F hF => by (go_simp <;> exact hF)), ?_⟩
  simp only [Act.put, List.setIfInBounds_toArray, List.set_cons_succ, List.set_cons_zero]
  refine ⟨fun j w1 hC => by exact Chn.upon_pure hC (fun F hF => by (go_simp <;> exact hF)), ?_⟩
  simp only [Act.put, List.setIfInBounds_toArray, List.set_cons_succ, List.set_cons_zero]
  refine ⟨fun j w1 hC => by exact Chn.upon_pure hC (fun F hF => by (go_simp <;> exact hF)), ?_⟩
  simp only [Act.put, List.setIfInBounds_toArray, List.set_cons_succ, List.set_cons_zero]
  refine ⟨fun j w1 hC => by exact Chn.upon_pure hC (fun F hF => by (go_simp <;> exact hF)), ?_⟩
  simp only [Act.put, List.setIfInBounds_toArray, List.set_cons_succ, List.set_cons_zero]
  refine ⟨fun j w1 hC => by exact Chn.upon_pure hC (fun F hF => by (go_simp <;> exact hF)), ?_⟩
  simp only [Act.put, List.setIfInBounds_toArray, List.set_cons_succ, List.set_cons_zero]
  refine ⟨fun j w1 hC => by have hq := at_g hC.1 0 (.int .u64 k.value) (by decide) rfl; exact Chn.upon_pure hC (fun F hF => by (go_simp <;> exact hF)), ?_⟩
  simp only [Act.put, List.setIfInBounds_toArray, List.set_cons_succ, List.set_cons_zero]
  refine ⟨fun w1 hC => by exact Chn.upon_call (setX_c g ⟨i, c, k, e⟩ i.rd k.value w1 hC.1) (fun e2 w2 hh => ⟨hh.1, hC.next hh.2.1 hh.2.2⟩) (fun F hF => by (go_simp <;> exact hF)), ?_⟩
  simp only [Act.put, List.setIfInBounds_toArray, List.set_cons_succ, List.set_cons_zero]
  intro w2 hC
  go_wp2
  first | go_end0 | ((try simp only [Exit.inBlock, Exit.then]); refine bodyPost_ret (results_none rfl _ _ _) rfl ?_)
  exact ⟨rfl, hC⟩
set_option maxRecDepth 4000 in
set_option maxHeartbeats 4000000 in
theorem addImm_va (g : Nat) (i : Ins) (c d : Cor) (k : Gt) (e a m b S : Int) (w : World) (h : w.heap[g]? = some (.cells (Stp.cells ⟨i, c, k, e⟩) 58)) (hf : i.flags = false) (hm : i.minus = false) (ha : i.amount = 0)
    (hA : spX c i.rn = a) (hM : i.imm % 18446744073709551616 = m) (hb : m * 1 % 18446744073709551616 = b) (hS : sumV a b false = S) (hd : pregV c i.rd S = d) (ha64 : Hid (U64 a)) (hb64 : Hid (U64 b)) :
    Calls Tryz.prog 126 #[.pointer (some ⟨g, 0, none⟩)] w fun e2 w' => e2 = .returned (.tuple #[]) ∧ w'.heap[g]? = some (.cells (Stp.cells ⟨i, d, k, e⟩) 58) ∧ But g w w' := by
  go_enter Tryz.func126, Tryz.ntmps126
  refine Chn.wp_region_chain (Ph g i (pick3 c d) k e w) [8, 21, 22] [(.pointer (some ⟨g, 0, none⟩)), (.pointer (some ⟨g, 0, none⟩)), (.pointer (some ⟨g, 0, none⟩)), (.pointer (some ⟨g, 0, none⟩)), (.pointer (some ⟨g, 0, none⟩)), (.pointer (some ⟨g, 0, none⟩)), (.pointer (some ⟨g, 3, none⟩)), (.int .i64 i.rn), (.int .u64 a), (.pointer (some ⟨g, 0, none⟩)), (.pointer (some ⟨g, 0, none⟩)), (.pointer (some ⟨g, 0, none⟩)), (.pointer (some ⟨g, 6, none⟩)), (.int .i64 i.imm), (.int .u64 m), (.pointer (some ⟨g, 0, none⟩)), (.pointer (some ⟨g, 0, none⟩)), (.pointer (some ⟨g, 0, none⟩)), (.pointer (some ⟨g, 8, none⟩)), (.int .i64 0), (.int .u64 b), (.int .u64 S), (.tuple #[])] (by kernel_rfl) (by kernel_rfl) (by kernel_rfl) (by kernel_rfl) (ph_start h) ?_
  refine ⟨fun j w1 hC => by exact Chn.upon_pure hC (fun F hF => by (go_simp <;> exact hF)), ?_⟩
  simp only [Act.put, List.setIfInBounds_toArray, List.set_cons_succ, List.set_cons_zero]
  refine ⟨fun j w1 hC => by exact Chn.upon_pure hC (fun F hF => by (go_simp <;> exact hF)), ?_⟩
  simp only [Act.put, List.setIfInBounds_toArray, List.set_cons_succ, List.set_cons_zero]
  refine ⟨fun j w1 hC => by exact Chn.upon_pure hC (fun F hF => by (go_simp <;> exact hF)), ?_⟩
  simp only [Act.put, List.setIfInBounds_toArray, List.set_cons_succ, List.set_cons_zero]
  refine ⟨fun j w1 hC => by exact Chn.upon_pure hC (fun F hF => by (go_simp <;> exact hF)), ?_⟩
  simp only [Act.put, List.setIfInBounds_toArray, List.set_cons_succ, List.set_cons_zero]
  refine ⟨fun j w1 hC => by exact Chn.upon_pure hC (fun F hF => by (go_simp <;> exact hF)), ?_⟩
  simp only [Act.put, List.setIfInBounds_toArray, List.set_cons_succ, List.set_cons_zero]
  refine ⟨fun j w1 hC => by exact Chn.upon_pure hC (fun F hF => by (go_simp <;> exact hF)), ?_⟩
  simp only [Act.put, List.setIfInBounds_toArray, List.set_cons_succ, List.set_cons_zero]
  refine ⟨fun j w1 hC => by exact Chn.upon_pure hC (fun F hF => by (go_simp <;> exact hF)), ?_⟩
  simp only [Act.put, List.setIfInBounds_toArray, List.set_cons_succ, List.set_cons_zero]
  refine ⟨fun j w1 hC => by have hq := at_i hC.1 3 (.int .i64 i.rn) (by decide) rfl; exact Chn.upon_pure hC (fun F hF => by (go_simp <;> exact hF)), ?_⟩
  simp only [Act.put, List.setIfInBounds_toArray, List.set_cons_succ, List.set_cons_zero]
  refine ⟨fun w1 hC => by exact Chn.upon_call (xOrSP_c g ⟨i, c, k, e⟩ i.rn w1 hC.1) (fun e2 w2 hh => ⟨by rw [hh.1, hA], hC.same rfl hh.2⟩) (fun F hF => by (go_simp <;> exact hF)), ?_⟩
  simp only [Act.put, List.setIfInBounds_toArray, List.set_cons_succ, List.set_cons_zero]
  refine ⟨fun j w1 hC => by exact Chn.upon_pure hC (fun F hF => by (go_simp <;> exact hF)), ?_⟩
  simp only [Act.put, List.setIfInBounds_toArray, List.set_cons_succ, List.set_cons_zero]
  refine ⟨fun j w1 hC => by exact Chn.upon_pure hC (fun F hF => by (go_simp <;> exact hF)), ?_⟩
  simp only [Act.put, List.setIfInBounds_toArray, List.set_cons_succ, List.set_cons_zero]
  refine ⟨fun j w1 hC => by exact Chn.upon_pure hC (fun F hF => by (go_simp <;> exact hF)), ?_⟩
  simp only [Act.put, List.setIfInBounds_toArray, List.set_cons_succ, List.set_cons_zero]
  refine ⟨fun j w1 hC => by exact Chn.upon_pure hC (fun F hF => by (go_simp <;> exact hF)), ?_⟩
  simp only [Act.put, List.setIfInBounds_toArray, List.set_cons_succ, List.set_cons_zero]
  refine ⟨fun j w1 hC => by have hq := at_i hC.1 6 (.int .i64 i.imm) (by decide) rfl; exact Chn.upon_pure hC (fun F hF => by (go_simp <;> exact hF)), ?_⟩
  simp only [Act.put, List.setIfInBounds_toArray, List.set_cons_succ, List.set_cons_zero]
  refine ⟨fun j w1 hC => by exact Chn.upon_int hC (IntKind.u64.wrap i.imm) (by rw [wrapU]; exact hM) (fun F hF => by (go_simp <;> exact hF)), ?_⟩
  simp only [Act.put, List.setIfInBounds_toArray, List.set_cons_succ, List.set_cons_zero]
  refine ⟨fun j w1 hC => by exact Chn.upon_pure hC (fun F hF => by (go_simp <;> exact hF)), ?_⟩
  simp only [Act.put, List.setIfInBounds_toArray, List.set_cons_succ, List.set_cons_zero]
  refine ⟨fun j w1 hC => by exact Chn.upon_pure hC (fun F hF => by (go_simp <;> exact hF)), ?_⟩
  simp only [Act.put, List.setIfInBounds_toArray, List.set_cons_succ, List.set_cons_zero]
  refine ⟨fun j w1 hC => by exact Chn.upon_pure hC (fun F hF => by (go_simp <;> exact hF)), ?_⟩
  simp only [Act.put, List.setIfInBounds_toArray, List.set_cons_succ, List.set_cons_zero]
  refine ⟨fun j w1 hC => by exact Chn.upon_pure hC (fun F hF => by (go_simp <;> exact hF)), ?_⟩
  simp only [Act.put, List.setIfInBounds_toArray, List.set_cons_succ, List.set_cons_zero]
  refine ⟨fun j w1 hC => by have hq := (by have hq := at_i hC.1 8 (.int .i64 i.amount) (by decide) rfl; rw [ha] at hq; exact hq : w1.cell? ⟨g, 8, none⟩ = some (.int .i64 0)); exact Chn.upon_pure hC (fun F hF => by (go_simp <;> exact hF)), ?_⟩
  simp only [Act.put, List.setIfInBounds_toArray, List.set_cons_succ, List.set_cons_zero]
  refine ⟨fun j w1 hC => by exact Chn.upon_int hC (IntKind.u64.wrap m) (by rw [wrapU, ← hb, Int.mul_one]) (fun F hF => by (go_simp <;> exact hF)), ?_⟩
  simp only [Act.put, List.setIfInBounds_toArray, List.set_cons_succ, List.set_cons_zero]
  refine ⟨fun w1 hC => by exact Chn.upon_call (sum_no g ⟨i, c, k, e⟩ a b ha64 hb64 w1 hC.1 hf hm) (fun e2 w2 hh => ⟨by rw [hh.1, hS], hC.same rfl hh.2⟩) (fun F hF => by (go_simp <;> exact hF)), ?_⟩
  simp only [Act.put, List.setIfInBounds_toArray, List.set_cons_succ, List.set_cons_zero]
  refine ⟨fun w1 hC => by exact Chn.upon_call (setWithImm_no g ⟨i, c, k, e⟩ S w1 hC.1 hf) (fun e2 w2 hh => ⟨hh.1, hC.next (by rw [hh.2.1, hd]; rfl) hh.2.2⟩) (fun F hF => by (go_simp <;> exact hF)), ?_⟩
  simp only [Act.put, List.setIfInBounds_toArray, List.set_cons_succ, List.set_cons_zero]
  intro w2 hC
  go_wp2
  first | go_end0 | ((try simp only [Exit.inBlock, Exit.then]); refine bodyPost_ret (results_none rfl _ _ _) rfl ?_)
  exact ⟨rfl, hC⟩
set_option maxRecDepth 4000 in
set_option maxHeartbeats 4000000 in
theorem addImm_vb (g : Nat) (i : Ins) (c d : Cor) (k : Gt) (e a m b S : Int) (w : World) (h : w.heap[g]? = some (.cells (Stp.cells ⟨i, c, k, e⟩) 58)) (hf : i.flags = false) (hm : i.minus = false) (ha : i.amount = 12)
    (hA : spX c i.rn = a) (hM : i.imm % 18446744073709551616 = m) (hb : m * 4096 % 18446744073709551616 = b) (hS : sumV a b false = S) (hd : pregV c i.rd S = d) (ha64 : Hid (U64 a)) (hb64 : Hid (U64 b)) :
    Calls Tryz.prog 126 #[.pointer (some ⟨g, 0, none⟩)] w fun e2 w' => e2 = .returned (.tuple #[]) ∧ w'.heap[g]? = some (.cells (Stp.cells ⟨i, d, k, e⟩) 58) ∧ But g w w' := by
  go_enter Tryz.func126, Tryz.ntmps126
  refine Chn.wp_region_chain (Ph g i (pick3 c d) k e w) [8, 21, 22] [(.pointer (some ⟨g, 0, none⟩)), (.pointer (some ⟨g, 0, none⟩)), (.pointer (some ⟨g, 0, none⟩)), (.pointer (some ⟨g, 0, none⟩)), (.pointer (some ⟨g, 0, none⟩)), (.pointer (some ⟨g, 0, none⟩)), (.pointer (some ⟨g, 3, none⟩)), (.int .i64 i.rn), (.int .u64 a), (.pointer (some ⟨g, 0, none⟩)), (.pointer (some ⟨g, 0, none⟩)), (.pointer (some ⟨g, 0, none⟩)), (.pointer (some ⟨g, 6, none⟩)), (.int .i64 i.imm), (.int .u64 m), (.pointer (some ⟨g, 0, none⟩)), (.pointer (some ⟨g, 0, none⟩)), (.pointer (some ⟨g, 0, none⟩)), (.pointer (some ⟨g, 8, none⟩)), (.int .i64 12), (.int .u64 b), (.int .u64 S), (.tuple #[])] (by kernel_rfl) (by kernel_rfl) (by kernel_rfl) (by kernel_rfl) (ph_start h) ?_
  refine ⟨fun j w1 hC => by exact Chn.upon_pure hC (fun F hF => by (go_simp <;> exact hF)), ?_⟩
  simp only [Act.put, List.setIfInBounds_toArray, List.set_cons_succ, List.set_cons_zero]
  refine ⟨fun j w1 hC => by exact Chn.upon_pure hC (fun F hF => by (go_simp <;> exact hF)), ?_⟩
  simp only [Act.put, List.setIfInBounds_toArray, List.set_cons_succ, List.set_cons_zero]
  refine ⟨fun j w1 hC => by exact Chn.upon_pure hC (fun F hF => by (go_simp <;> exact hF)), ?_⟩
  simp only [Act.put, List.setIfInBounds_toArray, List.set_cons_succ, List.set_cons_zero]
  refine ⟨fun j w1 hC => by exact Chn.upon_pure hC (fun F hF => by (go_simp <;> exact hF)), ?_⟩
  simp only [Act.put, List.setIfInBounds_toArray, List.set_cons_succ, List.set_cons_zero]
  refine ⟨fun j w1 hC => by exact Chn.upon_pure hC (fun F hF => by (go_simp <;> exact hF)), ?_⟩
  simp only [Act.put, List.setIfInBounds_toArray, List.set_cons_succ, List.set_cons_zero]
  refine ⟨fun j w1 hC => by exact Chn.upon_pure hC (fun F hF => by (go_simp <;> exact hF)), ?_⟩
  simp only [Act.put, List.setIfInBounds_toArray, List.set_cons_succ, List.set_cons_zero]
  refine ⟨fun j w1 hC => by exact Chn.upon_pure hC (fun F hF => by (go_simp <;> exact hF)), ?_⟩
  simp only [Act.put, List.setIfInBounds_toArray, List.set_cons_succ, List.set_cons_zero]
  refine ⟨fun j w1 hC => by have hq := at_i hC.1 3 (.int .i64 i.rn) (by decide) rfl; exact Chn.upon_pure hC (fun F hF => by (go_simp <;> exact hF)), ?_⟩
  simp only [Act.put, List.setIfInBounds_toArray, List.set_cons_succ, List.set_cons_zero]
  refine ⟨fun w1 hC => by exact Chn.upon_call (xOrSP_c g ⟨i, c, k, e⟩ i.rn w1 hC.1) (fun e2 w2 hh => ⟨by rw [hh.1, hA], hC.same rfl hh.2⟩) (fun F hF => by (go_simp <;> exact hF)), ?_⟩
  simp only [Act.put, List.setIfInBounds_toArray, List.set_cons_succ, List.set_cons_zero]
  refine ⟨fun j w1 hC => by exact Chn.upon_pure hC (fun F hF => by (go_simp <;> exact hF)), ?_⟩
  simp only [Act.put, List.setIfInBounds_toArray, List.set_cons_succ, List.set_cons_zero]
  refine ⟨fun j w1 hC => by exact Chn.upon_pure hC (fun F hF => by (go_simp <;> exact hF)), ?_⟩
  simp only [Act.put, List.setIfInBounds_toArray, List.set_cons_succ, List.set_cons_zero]
  refine ⟨fun j w1 hC => by exact Chn.upon_pure hC (fun F hF => by (go_simp <;> exact hF)), ?_⟩
  simp only [Act.put, List.setIfInBounds_toArray, List.set_cons_succ, List.set_cons_zero]
  refine ⟨fun j w1 hC => by exact Chn.upon_pure hC (fun F hF => by (go_simp <;> exact hF)), ?_⟩
  simp only [Act.put, List.setIfInBounds_toArray, List.set_cons_succ, List.set_cons_zero]
  refine ⟨fun j w1 hC => by have hq := at_i hC.1 6 (.int .i64 i.imm) (by decide) rfl; exact Chn.upon_pure hC (fun F hF => by (go_simp <;> exact hF)), ?_⟩
  simp only [Act.put, List.setIfInBounds_toArray, List.set_cons_succ, List.set_cons_zero]
  refine ⟨fun j w1 hC => by exact Chn.upon_int hC (IntKind.u64.wrap i.imm) (by rw [wrapU]; exact hM) (fun F hF => by (go_simp <;> exact hF)), ?_⟩
  simp only [Act.put, List.setIfInBounds_toArray, List.set_cons_succ, List.set_cons_zero]
  refine ⟨fun j w1 hC => by exact Chn.upon_pure hC (fun F hF => by (go_simp <;> exact hF)), ?_⟩
  simp only [Act.put, List.setIfInBounds_toArray, List.set_cons_succ, List.set_cons_zero]
  refine ⟨fun j w1 hC => by exact Chn.upon_pure hC (fun F hF => by (go_simp <;> exact hF)), ?_⟩
  simp only [Act.put, List.setIfInBounds_toArray, List.set_cons_succ, List.set_cons_zero]
  refine ⟨fun j w1 hC => by exact Chn.upon_pure hC (fun F hF => by (go_simp <;> exact hF)), ?_⟩
  simp only [Act.put, List.setIfInBounds_toArray, List.set_cons_succ, List.set_cons_zero]
  refine ⟨fun j w1 hC => by exact Chn.upon_pure hC (fun F hF => by (go_simp <;> exact hF)), ?_⟩
  simp only [Act.put, List.setIfInBounds_toArray, List.set_cons_succ, List.set_cons_zero]
  refine ⟨fun j w1 hC => by have hq := (by have hq := at_i hC.1 8 (.int .i64 i.amount) (by decide) rfl; rw [ha] at hq; exact hq : w1.cell? ⟨g, 8, none⟩ = some (.int .i64 12)); exact Chn.upon_pure hC (fun F hF => by (go_simp <;> exact hF)), ?_⟩
  simp only [Act.put, List.setIfInBounds_toArray, List.set_cons_succ, List.set_cons_zero]
  refine ⟨fun j w1 hC => by exact Chn.upon_int hC (IntKind.u64.wrap (m * 4096)) (by rw [wrapU]; exact hb) (fun F hF => by (go_simp <;> exact hF)), ?_⟩
  simp only [Act.put, List.setIfInBounds_toArray, List.set_cons_succ, List.set_cons_zero]
  refine ⟨fun w1 hC => by exact Chn.upon_call (sum_no g ⟨i, c, k, e⟩ a b ha64 hb64 w1 hC.1 hf hm) (fun e2 w2 hh => ⟨by rw [hh.1, hS], hC.same rfl hh.2⟩) (fun F hF => by (go_simp <;> exact hF)), ?_⟩
  simp only [Act.put, List.setIfInBounds_toArray, List.set_cons_succ, List.set_cons_zero]
  refine ⟨fun w1 hC => by exact Chn.upon_call (setWithImm_no g ⟨i, c, k, e⟩ S w1 hC.1 hf) (fun e2 w2 hh => ⟨hh.1, hC.next (by rw [hh.2.1, hd]; rfl) hh.2.2⟩) (fun F hF => by (go_simp <;> exact hF)), ?_⟩
  simp only [Act.put, List.setIfInBounds_toArray, List.set_cons_succ, List.set_cons_zero]
  intro w2 hC
  go_wp2
  first | go_end0 | ((try simp only [Exit.inBlock, Exit.then]); refine bodyPost_ret (results_none rfl _ _ _) rfl ?_)
  exact ⟨rfl, hC⟩
end Go.Proofs.YtbjcdpmhmebjnaaGreat
/- What an instruction does, found by its Op; the state behind it, where nothing is an exception: contracts. -/
namespace Go.Proofs.YtbjcdpmhmebjnaaGreat
open Go.RowKit
set_option linter.unusedVariables false

theorem but_own {g b : Nat} {w x : World} {cs : Array Value} (h : But g w x) (hb : w.heap.size ≤ b) : But g w (x.setRow b cs) :=
  ⟨h.os, h.tape, h.output, by rw [size_setRow]; exact h.size, fun k hk hn => by rw [setRow_other _ _ _ _ (by omega)]; exact h.block k hk hn⟩
theorem but_alloc {g : Nat} {w : World} (o : Obj) : But g w (w.alloc o) := but_below (r_below_alloc w o)
def doRow (g : Nat) : Array Value := #[.nilFunc, .func (.func 126) #[.pointer (some ⟨g, 0, none⟩)] #[], .func (.func 127) #[.pointer (some ⟨g, 0, none⟩)] #[], .func (.func 128) #[.pointer (some ⟨g, 0, none⟩)] #[], .func (.func 129) #[.pointer (some ⟨g, 0, none⟩)] #[], .func (.func 130) #[.pointer (some ⟨g, 0, none⟩)] #[], .func (.func 131) #[.pointer (some ⟨g, 0, none⟩)] #[], .func (.func 132) #[.pointer (some ⟨g, 0, none⟩)] #[], .func (.func 133) #[.pointer (some ⟨g, 0, none⟩)] #[], .func (.func 134) #[.pointer (some ⟨g, 0, none⟩)] #[], .func (.func 135) #[.pointer (some ⟨g, 0, none⟩)] #[], .func (.func 136) #[.pointer (some ⟨g, 0, none⟩)] #[], .func (.func 137) #[.pointer (some ⟨g, 0, none⟩)] #[], .func (.func 138) #[.pointer (some ⟨g, 0, none⟩)] #[], .func (.func 139) #[.pointer (some ⟨g, 0, none⟩)] #[], .func (.func 140) #[.pointer (some ⟨g, 0, none⟩)] #[], .func (.func 141) #[.pointer (some ⟨g, 0, none⟩)] #[], .func (.func 142) #[.pointer (some ⟨g, 0, none⟩)] #[], .nilFunc, .func (.func 142) #[.pointer (some ⟨g, 0, none⟩)] #[], .nilFunc, .func (.func 142) #[.pointer (some ⟨g, 0, none⟩)] #[], .nilFunc, .func (.func 142) #[.pointer (some ⟨g, 0, none⟩)] #[], .func (.func 143) #[.pointer (some ⟨g, 0, none⟩)] #[], .nilFunc, .nilFunc, .nilFunc, .nilFunc, .nilFunc, .nilFunc, .func (.func 144) #[.pointer (some ⟨g, 0, none⟩)] #[], .func (.func 145) #[.pointer (some ⟨g, 0, none⟩)] #[], .func (.func 146) #[.pointer (some ⟨g, 0, none⟩)] #[], .nilFunc, .nilFunc, .func (.func 147) #[.pointer (some ⟨g, 0, none⟩)] #[], .func (.func 148) #[.pointer (some ⟨g, 0, none⟩)] #[]]
theorem doRow_size (g : Nat) : (doRow g).size = 38 := rfl
theorem doRow_one (g : Nat) : (doRow g).all (·.oneCell') = true := by simp [doRow, Value.oneCell']
theorem info111 (g : Nat) : (Tryz.prog.info? 115).map (·.size) = some (doRow g).size := by rw [doRow_size]; kernel_rfl
set_option maxRecDepth 4000 in
set_option maxHeartbeats 4000000 in
theorem do_some (g : Nat) (s s' : Stp) (w : World) (h : w.heap[g]? = some (.cells s.cells 58)) (k : Nat) (hk : k < 38) (hop : s.i.op = (k : Int)) (f : Nat) (hrow : (doRow g)[k]? = some (.func (.func f) #[.pointer (some ⟨g, 0, none⟩)] #[]))
    (hE : ∀ (args : Array Value) (w : World), (callFunc f args).run Tryz.prog w = .ok (.enter f args) w)
    (hc : ∀ w : World, w.heap[g]? = some (.cells s.cells 58) → Calls Tryz.prog f #[.pointer (some ⟨g, 0, none⟩)] w fun e w' => e = .returned (.tuple #[]) ∧ w'.heap[g]? = some (.cells s'.cells 58) ∧ But g w w') :
    Calls Tryz.prog 54 #[.pointer (some ⟨g, 0, none⟩)] w fun e w' => e = .returned (.tuple #[]) ∧ w'.heap[g]? = some (.cells s'.cells 58) ∧ But g w w' := by
  go_enter Tryz.func54, Tryz.ntmps54
  have H := has_none w
  go_upto_region 1 with (first | ((with_reducible refine wpList_builtG rfl 115 _ rfl (doRow g) (by kernel_rfl) ?_); simp only [Act.put, List.setIfInBounds_toArray, List.set_cons_succ, List.set_cons_zero]) | ((with_reducible refine wpList_store_new H rfl 115 _ _ rfl (doRow g) rfl rfl (info111 g) ?_ (doRow_one g) ?_); (focus rfl); intro w2 H2; simp only [Act.put]))
  have hs := keep_row h H2.below
  have c0 := at_i hs 0 (.int .i64 s.i.op) (by decide) rfl
  rw [hop] at c0
  have ck := H2.at List.mem_cons_self k _ hrow
  have hB := H2.below
  clear H2
  generalize w.heap.size = z at ck ⊢
  have hk1 : (k : Int) < 38 := by omega
  go_upto_region 3 with fail
  go_wp2_with (refine (hc _ hs).mono ?_; rintro e w3 ⟨rfl, hs3, hB3⟩; dsimp only)
  first | go_end0 | ((try simp only [Exit.inBlock, Exit.then]); refine bodyPost_ret (results_none rfl _ _ _) rfl ?_)
  exact ⟨rfl, hs3, (but_below hB).trans hB3⟩
/-- The PC laid anew. -/
theorem Stp.setPc (s : Stp) (n : Int) : s.cells.setIfInBounds 49 (.int .u64 n) = ({ s with c := { s.c with pc := n } } : Stp).cells := by
  unfold Stp.cells
  rw [Array.setIfInBounds_append_right (by simp), Array.setIfInBounds_append_left (by simp [Cor.size])]
  have := s.c.s33 n
  simp only [List.size_toArray, List.length_cons, List.length_nil] at this ⊢
  rw [show 49 - (0 + 1 + 1 + 1 + 1 + 1 + 1 + 1 + 1 + 1 + 1 + 1 + 1 + 1 + 1 + 1 + 1) = 33 from rfl, this]
theorem wpList_store_pc {ops : Array Oper} {rest : List Oper} {o : Oper} {a : Act} {w : World} {Q : Exit → Act → World → Prop} (hgd : o.guard = none) (x y : Operand) (ho : o.op = .store 22 x y)
    (g : Nat) (hx : a.eval x = .pointer (some ⟨g, 49, none⟩)) (s : Stp) (n : Int) (hy : a.eval y = .int .u64 n) (hg : w.heap[g]? = some (.cells s.cells 58))
    (h : ∀ w2 : World, w2.heap[g]? = some (.cells ({ s with c := { s.c with pc := n } } : Stp).cells 58) → But g w w2 → wpList Tryz.prog ops Q rest (a.put o.dst undef) w2) : wpList Tryz.prog ops Q (o :: rest) a w := by
  refine wpList_store_int hgd 22 x y ho g 49 .u64 n hx hy (.int .u64 s.c.pc) (at_c hg 33 _ (by decide) s.c.a33) (frozen_of_row _ _ _ _ _ hg) size22 (h _ ?_ (but_setCell _ _ _ _))
  rw [heap_setCell_same _ _ _ _ _ _ hg, s.setPc]
set_option maxRecDepth 4000 in
set_option maxHeartbeats 4000000 in
theorem end_c (g : Nat) (i : Ins) (c d : Cor) (k : Gt) (p : Int) (w : World) (h : w.heap[g]? = some (.cells (Stp.cells ⟨i, c, k, 0⟩) 58)) (hp : IntKind.u64.wrap (c.pc + 4) = p)
    (hdo : ∀ w : World, w.heap[g]? = some (.cells (Stp.cells ⟨i, { c with pc := p }, k, 0⟩) 58) → Calls Tryz.prog 54 #[.pointer (some ⟨g, 0, none⟩)] w fun e w' => e = .returned (.tuple #[]) ∧ w'.heap[g]? = some (.cells (Stp.cells ⟨i, d, k, 0⟩) 58) ∧ But g w w') :
    Calls Tryz.prog 31 #[.pointer (some ⟨g, 0, none⟩)] w fun e w' => e = .returned (.tuple #[d.val, .int .i64 0]) ∧ But g w w' := by
  go_enter Tryz.func31, Tryz.ntmps31
  go_upto_region 1 with fail
  have hgw : g < w.heap.size := (Array.getElem?_eq_some_iff.1 h).1
  generalize hw1 : w.alloc _ = w1
  obtain ⟨Z, hZ, hb1⟩ : ∃ Z : Array Value, Z.size = 49 ∧ w1.heap[w.heap.size]? = some (.cells Z 26) := by
    refine ⟨_, ?_, by rw [← hw1]; exact heap_alloc_new _ _⟩
    rfl
  have hB1 : But g w w1 := by rw [← hw1]; exact but_alloc _
  have hs1 : w1.heap[g]? = some (.cells (Stp.cells ⟨i, c, k, 0⟩) 58) := by rw [← hw1]; exact keep_row h (r_below_alloc w _)
  clear hw1
  generalize hbb : w.heap.size = b at hb1 ⊢
  have c49 := at_c hs1 33 (.int .u64 c.pc) (by decide) c.a33
  go_upto_region 2 with ((with_reducible refine wpList_store_pc rfl _ _ rfl g rfl _ _ rfl hs1 ?_); intro w2 hs2 hB2; simp only [Act.put])
  replace hs2 : w2.heap[g]? = some (.cells (Stp.cells ⟨i, { c with pc := p }, k, 0⟩) 58) := hs2
  have hb2 := hB2.keep hb1 (by omega)
  go_upto_region 3 with (go_at_call 54; refine (hdo _ hs2).mono ?_; rintro e w3 ⟨rfl, hs3, hB3⟩; dsimp only)
  have hb3 := hB3.keep hb2 (by omega)
  have c68 := at_e hs3
  clear c49
  go_wp2_with (first | ((with_reducible refine wpList_load_core rfl _ rfl g rfl _ hs3 ?_); simp only [Act.put, List.setIfInBounds_toArray, List.set_cons_succ, List.set_cons_zero]) | ((with_reducible refine wpList_store_row rfl 26 _ _ rfl b _ rfl rfl 26 Z hb3 (Cor.info _) ?_ (Cor.one _) ?_); (focus (rw [hZ, Cor.size])); generalize hw4 : World.setRow _ b _ = w4; simp only [Act.put]))
  have hb4 : w4.heap[b]? = some (.cells d.cells 26 (0, 0)) := by rw [← hw4]; exact setRow_heap _ _ _ _ _ _ hb3
  refine bodyPost_ret (back_two rfl _ _ _ _ _ _ rfl hb4) rfl ⟨rfl, ?_⟩
  rw [← hw4]
  exact but_own ((hB1.trans hB2).trans hB3) (by omega)
end Go.Proofs.YtbjcdpmhmebjnaaGreat
/- End, where nothing is an exception; Fetch; the state that the examples begin with: contracts. -/
namespace Go.Proofs.YtbjcdpmhmebjnaaGreat
open Go.RowKit
set_option linter.unusedVariables false

theorem three_start (w : World) (A B C : Array Value) (t u v : TypeId) : Has w [(w.heap.size + 2, C, v), (w.heap.size + 1, B, u), (w.heap.size, A, t)] (((w.alloc (.cells A t)).alloc (.cells B u)).alloc (.cells C v)) := by
  have H := (stwo_start w A B t u).new v C
  rwa [show ((w.alloc (.cells A t)).alloc (.cells B u)).heap.size = w.heap.size + 2 from by rw [show ((w.alloc (.cells A t)).alloc (.cells B u)).heap.size = (w.alloc (.cells A t)).heap.size + 1 from Array.size_push .., show (w.alloc (.cells A t)).heap.size = w.heap.size + 1 from Array.size_push ..]] at H
def exZ : Array Value := #[.int .i64 0, .int .i64 0, .int .u64 0]
theorem exZ_one : exZ.all (·.oneCell') = true := by simp [exZ, Value.oneCell']
theorem info70 : (Tryz.prog.info? 65).map (·.size) = some exZ.size := by kernel_rfl
theorem Gt.info (k : Gt) : (Tryz.prog.info? 40).map (·.size) = some k.cells.size := by
  show (Tryz.prog.info? 40).map (·.size) = some 3
  kernel_rfl
theorem Gt.one (k : Gt) : k.cells.all (·.oneCell') = true := by simp [Gt.cells, Value.oneCell']
theorem back_ex {fn : Func} {p u : Tmp} (h : fn.results = #[.cell p 65, .tmp u]) (tmps : Array Value) (w : World) (g : Nat) (cs : Array Value) (hc : cs.size = 3) (fr : Nat × Nat) (t : TypeId)
    (hp : tmps.getD p undef = .pointer (some ⟨g, 0, none⟩)) (hg : w.heap[g]? = some (.cells cs t fr)) :
    (results fn tmps).run Tryz.prog w = .ok (.tuple #[.agg cs, tmps.getD u undef]) w := by
  rw [results_cell_tmp h]
  simp [hp, asAddr, run_loadVar_row w g t 65 cs fr _ hg Tryz.underlying65 rfl (by rw [hc]; kernel_rfl)]
set_option maxRecDepth 4000 in
set_option maxHeartbeats 4000000 in
theorem exceptionOf_no (k : Wnt) (y : Gt) (el : Int) (w : World) (hk : (k.kind == 15) = false) (hf : y.fault = 0) :
    Calls Tryz.prog 29 #[k.val, y.val, .int .i64 el] w fun e w' => e = .returned (.tuple #[.agg exZ, .bool false]) ∧ Below w.heap.size w w' := by
  go_enter Tryz.func29, Tryz.ntmps29
  go_upto_region 1 with fail
  have H := three_start w k.cells y.cells #[.int .i64 0, .int .i64 0, .int .u64 0] 30 40 65
  generalize hb : w.heap.size = b at H ⊢
  generalize ((w.alloc _).alloc _).alloc _ = w1 at H ⊢
  obtain ⟨Z, hZ, H⟩ : ∃ Z, Z.size = exZ.size ∧ Has w [(b + 2, Z, 65), (b + 1, y.cells, 40), (b, k.cells, 30)] w1 := ⟨_, rfl, H⟩
  have hne : ∀ p ∈ [(b + 1, y.cells, (40 : TypeId)), (b, k.cells, (30 : TypeId))], p.1 ≠ b + 2 := by intro p hp; simp at hp; rcases hp with rfl | rfl <;> simp
  have c0 := H.at (b := b) (t := 30) (c := k.cells) (by simp) 0 (.int .i64 k.kind) rfl
  have c2 := H.at (b := b + 1) (t := 40) (c := y.cells) (by simp) 2 (.int .i64 y.fault) rfl
  rw [hf] at c2
  go_wp2_with (first | ((with_reducible refine wpList_builtG rfl 65 _ rfl exZ (by kernel_rfl) ?_); simp only [Act.put, List.setIfInBounds_toArray, List.set_cons_succ, List.set_cons_zero]) | ((with_reducible refine wpList_store_over rfl 65 H hne _ _ rfl exZ rfl rfl info70 hZ exZ_one ?_); intro w9 H; simp only [Act.put]))
  exact bodyPost_ret (back_ex rfl _ _ _ exZ rfl _ _ rfl (H.get List.mem_cons_self)) rfl ⟨rfl, by first | exact H.below | (rw [← hb]; exact H.below)⟩
theorem Has.but {w0 w w' : World} {L : List (Nat × Array Value × TypeId)} {g : Nat} (h : Has w0 L w) (hb : But g w w') (hg : w0.heap.size ≤ g) (hL : ∀ p ∈ L, p.1 ≠ g) : Has w0 L w' :=
  ⟨But.below h.below hb hg, fun p hp => ⟨(h.box p hp).1, hb.keep (h.box p hp).2 (hL p hp)⟩⟩
/-- A new variable of an exception. -/
def FreshX (n : Nat) (v : Value) (w : World) : Prop := ∃ b Z, v = .pointer (some ⟨b, 0, none⟩) ∧ n < b ∧ w.heap[b]? = some (.cells Z 65) ∧ Z.size = 3
theorem freshX_up (n : Nat) (v : Value) : Rel.Up Rel.Grows (FreshX n v) := fun _ _ ⟨b, Z, e, hn, hh, hz⟩ hb => ⟨b, Z, e, hn, keep_row hh hb, hz⟩
theorem rel_load_g {o : Oper} {a : Act} {w : World} {k : Gt} (x : Operand) (ho : o.op = .load 40 x) (g : Nat) (hx : a.eval x = .pointer (some ⟨g, 0, none⟩)) (hg : w.heap[g]? = some (.cells k.cells 40)) :
    Rel.relUpon Tryz.prog Rel.Grows (fun v _ => v = k.val) w ((execOp a.eval o).run Tryz.prog w) := by
  unfold execOp
  simp only [ho, hx, Instr.loadAt, Instr.sureAddr, Sem.run_bind, Sem.run_pure, Result.andThen_ok, run_loadVar_row w g 40 40 k.cells (0, 0) _ hg Tryz.underlying40 rfl k.info]
  exact ⟨Below.refl _ _, rfl⟩
/-- Of what was there up to g nothing has turned; a variable of an exception is one still. -/
structure GX (g : Nat) (w w' : World) : Prop where
  os : w'.os = w.os
  tape : w'.tape = w.tape
  output : w'.output = w.output
  size : w.heap.size ≤ w'.heap.size
  low : ∀ k, k ≤ g → k < w.heap.size → w'.heap[k]? = w.heap[k]?
  row : ∀ (k : Nat) (Z : Array Value), g < k → w.heap[k]? = some (.cells Z 65) → Z.size = 3 → ∃ Z' : Array Value, w'.heap[k]? = some (.cells Z' 65) ∧ Z'.size = 3
theorem gx_below {g : Nat} {w w' : World} (h : Below w.heap.size w w') : GX g w w' := ⟨h.os, h.tape, h.output, h.size, fun k _ hk => h.block k hk, fun k Z _ hr hz => ⟨Z, keep_row hr h, hz⟩⟩
theorem gx_set {g x : Nat} {w : World} {Z cs : Array Value} (hx : g < x) (hr : w.heap[x]? = some (.cells Z 65)) (hc : cs.size = 3) : GX g w (w.setRow x cs) :=
  ⟨rfl, rfl, rfl, by rw [size_setRow]; exact Nat.le_refl _, fun k hk _ => setRow_other _ _ _ _ (by omega), fun k Z' hk hr' hz => by
    by_cases e : k = x
    · subst e; exact ⟨cs, setRow_heap _ _ _ _ _ _ hr, hc⟩
    · exact ⟨Z', by rw [setRow_other _ _ _ _ e]; exact hr', hz⟩⟩
theorem freshX_upX (g : Nat) (v : Value) : Rel.Up (GX g) (FreshX g v) := fun _ _ ⟨b, Z, e, hn, hh, hz⟩ hb => by
  obtain ⟨Z', h1, h2⟩ := hb.row b Z hn hh hz
  exact ⟨b, Z', e, hn, h1, h2⟩
theorem has_upX {g : Nat} {w0 : World} {L : List (Nat × Array Value × TypeId)} (hg : w0.heap.size ≤ g) (hL : ∀ p ∈ L, p.1 ≤ g) : Rel.Up (GX g) (fun x => Has w0 L x) := fun x y h hb =>
  ⟨⟨hb.os.trans h.below.os, hb.tape.trans h.below.tape, hb.output.trans h.below.output, Nat.le_trans h.below.size hb.size, fun k hk => (hb.low k (by omega) (Nat.lt_of_lt_of_le hk h.below.size)).trans (h.below.block k hk)⟩,
   fun p hp => ⟨(h.box p hp).1, by rw [hb.low p.1 (hL p hp) (Array.getElem?_eq_some_iff.1 (h.box p hp).2).1]; exact (h.box p hp).2⟩⟩
theorem relX_load_g {g0 : Nat} {o : Oper} {a : Act} {w : World} {k : Gt} (x : Operand) (ho : o.op = .load 40 x) (g : Nat) (hx : a.eval x = .pointer (some ⟨g, 0, none⟩)) (hg : w.heap[g]? = some (.cells k.cells 40)) :
    Rel.relUpon Tryz.prog (GX g0) (fun v _ => v = k.val) w ((execOp a.eval o).run Tryz.prog w) := by
  unfold execOp
  simp only [ho, hx, Instr.loadAt, Instr.sureAddr, Sem.run_bind, Sem.run_pure, Result.andThen_ok, run_loadVar_row w g 40 40 k.cells (0, 0) _ hg Tryz.underlying40 rfl k.info]
  exact ⟨gx_below (Below.refl _ _), rfl⟩
theorem relX_store_x {g : Nat} {o : Oper} {a : Act} {w : World} (x y : Operand) (ho : o.op = .store 65 x y) (v : Value) (hx : a.eval x = v) (hy : a.eval y = .agg exZ) (hF : FreshX g v w) :
    Rel.relUpon Tryz.prog (GX g) (fun v _ => v = undef) w ((execOp a.eval o).run Tryz.prog w) := by
  obtain ⟨b, Z, rfl, hn, hr, hz⟩ := hF
  have hst := run_storeVar_row w b 65 65 Z exZ hr info70 (by rw [hz]; rfl) exZ_one
  unfold execOp
  simp only [ho, hx, hy, Instr.storeAt, Instr.sureAddr, Sem.run_bind, Sem.run_pure, Result.andThen_ok, hst]
  exact ⟨gx_set hn hr rfl, rfl⟩
theorem Has.of {w0 w : World} {L : List (Nat × Array Value × TypeId)} {g : Nat} {cs : Array Value} {t : TypeId} (h : Has w0 L w) (hg : w0.heap.size ≤ g) (hr : w.heap[g]? = some (.cells cs t)) : Has w0 ((g, cs, t) :: L) w :=
  ⟨h.below, fun p hp => by
    rcases List.mem_cons.1 hp with rfl | hp
    · exact ⟨hg, hr⟩
    · exact h.box p hp⟩
set_option maxRecDepth 8000 in
set_option maxHeartbeats 8000000 in
theorem End_i (c d : Cor) (word : Int) (i : Ins) (k : Gt) (p : Int) (w : World) (hdec : ∀ w : World, Calls Tryz.prog 15 #[.int .u32 word] w fun e w' => e = .returned i.val ∧ Below w.heap.size w w') (F : Fine i) (hr : rightC c = true)
    (V : Wnt) (hV : wantV c i = V) (hk : (V.kind == 15) = false) (hf : k.fault = 0) (hp : IntKind.u64.wrap (c.pc + 4) = p)
    (hdo : ∀ (g : Nat) (w : World), w.heap[g]? = some (.cells (Stp.cells ⟨i, { c with pc := p }, k, 0⟩) 58) → Calls Tryz.prog 54 #[.pointer (some ⟨g, 0, none⟩)] w fun e w' => e = .returned (.tuple #[]) ∧ w'.heap[g]? = some (.cells (Stp.cells ⟨i, d, k, 0⟩) 58) ∧ But g w w') :
    Calls Tryz.prog 13 #[c.val, .int .u32 word, k.val] w fun e w' => e = .returned (.tuple #[d.val, .int .i64 0]) ∧ Below w.heap.size w w' := by
  go_enter Tryz.func13, Tryz.ntmps13
  go_upto_region 1 with fail
  generalize hw1 : ((w.alloc _).alloc _).alloc _ = w1
  obtain ⟨Z, hZ, H⟩ : ∃ Z : Array Value, Z.size = 49 ∧ Has w [(w.heap.size + 2, Z, 26), (w.heap.size + 1, k.cells, 40), (w.heap.size, c.cells, 26)] w1 := by
    refine ⟨_, ?_, by rw [← hw1]; exact three_start w c.cells k.cells _ 26 40 26⟩
    rfl
  clear hw1
  generalize hb : w.heap.size = b at H ⊢
  have hne : ∀ p ∈ [(b + 1, k.cells, (40 : TypeId)), (b, c.cells, (26 : TypeId))], p.1 ≠ b + 2 := by intro p hp; simp at hp; rcases hp with rfl | rfl <;> simp
  go_upto_region 3 with (first | ((with_reducible refine wpList_load_ifA rfl 26 _ rfl b rfl 26 _ (0, 0) _ (H.get (List.mem_cons_of_mem _ (List.mem_cons_of_mem _ List.mem_cons_self))) Tryz.underlying26 rfl (Cor.info _) ?_); simp only [Act.put, List.setIfInBounds_toArray, List.set_cons_succ, List.set_cons_zero]) | (go_at_call 21; refine (Right_c c _).mono ?_; rw [hr]; rintro e w2 ⟨rfl, hB⟩; dsimp only; replace H := H.grow hB))
  refine Rel.wp_region_tail 6 Rel.Grows (fun x => Has w [(b + 2, Z, 26), (b + 1, k.cells, 40), (b, c.cells, 26)] x) [.inl (.int .u32 word), .inl i.val, .inl c.val, .inl k.val, .inl (.agg (Stp.cells ⟨i, c, k, 0⟩)), .inr (FreshS (b + 2))] (by kernel_rfl) (by kernel_rfl) (fun _ _ hh hb => hh.grow hb) (H.grow ⟨rfl, rfl, rfl, Nat.le_refl _, fun _ _ => rfl⟩) (by simp only [List.mem_cons, List.not_mem_nil, or_false]; rintro k hk; rcases hk with rfl | rfl | rfl | rfl | rfl | rfl <;> first | trivial | exact fun v => freshS_up _ v) ?_
  refine ⟨fun w1 hC _ => by go_simp; exact Below.refl _ _, ?_⟩
  simp only [Act.put, List.setIfInBounds_toArray, List.set_cons_succ, List.set_cons_zero]
  refine ⟨fun w1 hC _ => by go_simp; refine (hdec w1).mono ?_; rintro e w2 ⟨rfl, hb⟩; exact ⟨rfl, hb⟩, ?_⟩
  simp only [Act.put, List.setIfInBounds_toArray, List.set_cons_succ, List.set_cons_zero]
  refine ⟨fun w1 hC _ => rel_load_c _ rfl b rfl (hC.get (List.mem_cons_of_mem _ (List.mem_cons_of_mem _ List.mem_cons_self))), ?_⟩
  simp only [Act.put, List.setIfInBounds_toArray, List.set_cons_succ, List.set_cons_zero]
  refine ⟨fun w1 hC _ => rel_load_g _ rfl (b + 1) rfl (hC.get (List.mem_cons_of_mem _ List.mem_cons_self)), ?_⟩
  simp only [Act.put, List.setIfInBounds_toArray, List.set_cons_succ, List.set_cons_zero]
  refine ⟨fun w1 hC _ => rel_built_s _ rfl ⟨i, c, k, 0⟩ [(0, i.val), (1, c.val), (2, k.val)] (by simp only [Array.toList_map, List.map_cons, List.map_nil]; rfl) (built53g _ _ _), ?_⟩
  simp only [Act.put, List.setIfInBounds_toArray, List.set_cons_succ, List.set_cons_zero]
  refine ⟨fun w1 hC _ => ?_, fun vp => ?_⟩
  · go_simp
    exact ⟨r_below_alloc _ _, _, _, rfl, (Array.getElem?_eq_some_iff.1 (hC.get List.mem_cons_self)).1, heap_alloc_new _ _, rfl⟩
  simp only [Act.put, List.setIfInBounds_toArray, List.set_cons_succ, List.set_cons_zero]
  clear H
  intro w3 H hfr
  obtain ⟨g, Zs, rfl, hg, hrow, hZs⟩ := (hfr 5).1 rfl
  clear hfr
  simp only [List.drop_succ_cons, List.drop_zero]
  have hLg : ∀ p ∈ [(b + 2, Z, (26 : TypeId)), (b + 1, k.cells, (40 : TypeId)), (b, c.cells, (26 : TypeId))], p.1 ≠ g := by intro p hp; simp at hp; rcases hp with rfl | rfl | rfl <;> simp <;> omega
  with_reducible refine wpList_store_row rfl 58 _ _ rfl g _ rfl rfl 58 Zs hrow (Stp.info _) ?_ (Stp.one _) ?_
  focus (rw [hZs, Stp.size])
  have hs := setRow_heap w3 g Zs (Stp.cells ⟨i, c, k, 0⟩) 58 (0, 0) hrow
  have H2 := Has.of (H.but (but_setRow g w3 (Stp.cells ⟨i, c, k, 0⟩)) (by omega) hLg) (by omega) hs
  clear H hrow hs
  generalize w3.setRow g _ = w4 at H2 ⊢
  go_upto_region 4 with fail
  have hLe : ∀ p ∈ [(g, Stp.cells ⟨i, c, k, 0⟩, (58 : TypeId)), (b + 2, Z, (26 : TypeId)), (b + 1, k.cells, (40 : TypeId)), (b, c.cells, (26 : TypeId))], p.1 ≤ g := by intro p hp; simp at hp; rcases hp with rfl | rfl | rfl | rfl <;> simp <;> omega
  refine Rel.wp_region_rel (GX g) (fun x => Has w [(g, Stp.cells ⟨i, c, k, 0⟩, 58), (b + 2, Z, 26), (b + 1, k.cells, 40), (b, c.cells, 26)] x) [.inl V.val, .inl k.val, .inl (.pointer (some ⟨b, 38, none⟩)), .inl (.int .i64 c.el), .inl (.tuple #[.agg exZ, .bool false]), .inl (.tuple #[.agg exZ, .bool false]), .inl (.agg exZ), .inl (.bool false), .inr (FreshX g), .inl undef, .inl (.bool false)] (by kernel_rfl) (by kernel_rfl) (has_upX (by omega) hLe) (H2.grow ⟨rfl, rfl, rfl, Nat.le_refl _, fun _ _ => rfl⟩) (by simp only [List.mem_cons, List.not_mem_nil, or_false]; rintro k hk; rcases hk with rfl | rfl | rfl | rfl | rfl | rfl | rfl | rfl | rfl | rfl | rfl <;> first | trivial | exact fun v => freshX_upX _ v) ?_
  refine ⟨fun w1 hC _ => by go_simp; refine (want_c g ⟨i, c, k, 0⟩ w1 (hC.get List.mem_cons_self) F (right_el hr)).mono ?_; rintro e w2 ⟨rfl, hb⟩; first | exact gx_below hb | exact ⟨by rw [← hV], gx_below hb⟩, ?_⟩
  simp only [Act.put, List.setIfInBounds_toArray, List.set_cons_succ, List.set_cons_zero]
  refine ⟨fun w1 hC _ => relX_load_g _ rfl (b + 1) rfl (hC.get (List.mem_cons_of_mem _ (List.mem_cons_of_mem _ List.mem_cons_self))), ?_⟩
  simp only [Act.put, List.setIfInBounds_toArray, List.set_cons_succ, List.set_cons_zero]
  refine ⟨fun w1 hC _ => by go_simp; exact gx_below (Below.refl _ _), ?_⟩
  simp only [Act.put, List.setIfInBounds_toArray, List.set_cons_succ, List.set_cons_zero]
  refine ⟨fun w1 hC _ => by have hq := hC.at (List.mem_cons_of_mem _ (List.mem_cons_of_mem _ (List.mem_cons_of_mem _ List.mem_cons_self))) 38 (.int .i64 c.el) c.a38; go_simp; exact gx_below (Below.refl _ _), ?_⟩
  simp only [Act.put, List.setIfInBounds_toArray, List.set_cons_succ, List.set_cons_zero]
  refine ⟨fun w1 hC _ => by go_simp; refine (exceptionOf_no V k c.el w1 hk hf).mono ?_; rintro e w2 ⟨rfl, hb⟩; first | exact ⟨rfl, gx_below hb⟩ | exact ⟨_, rfl, gx_below hb, rfl⟩, ?_⟩
  simp only [Act.put, List.setIfInBounds_toArray, List.set_cons_succ, List.set_cons_zero]
  refine ⟨fun w1 hC _ => by go_simp; first | exact gx_below (Below.refl _ _) | exact ⟨gx_below (Below.refl _ _), rfl⟩, ?_⟩
  simp only [Act.put, List.setIfInBounds_toArray, List.set_cons_succ, List.set_cons_zero]
  refine ⟨fun w1 hC _ => by go_simp; first | exact gx_below (Below.refl _ _) | exact ⟨gx_below (Below.refl _ _), rfl⟩, ?_⟩
  simp only [Act.put, List.setIfInBounds_toArray, List.set_cons_succ, List.set_cons_zero]
  refine ⟨fun w1 hC _ => by go_simp; first | exact gx_below (Below.refl _ _) | exact ⟨gx_below (Below.refl _ _), rfl⟩, ?_⟩
  simp only [Act.put, List.setIfInBounds_toArray, List.set_cons_succ, List.set_cons_zero]
  refine ⟨fun w1 hC _ => ?_, fun vp => ?_⟩
  · go_simp
    exact ⟨gx_below (r_below_alloc _ _), _, _, rfl, (Array.getElem?_eq_some_iff.1 (hC.get List.mem_cons_self)).1, heap_alloc_new _ _, rfl⟩
  simp only [Act.put, List.setIfInBounds_toArray, List.set_cons_succ, List.set_cons_zero]
  refine ⟨fun w1 hC hF => relX_store_x _ _ rfl vp rfl rfl ((hF 8 (by kernel_rfl)).1 rfl), ?_⟩
  simp only [Act.put]
  refine ⟨fun w1 hC _ => by go_simp; first | exact gx_below (Below.refl _ _) | exact ⟨gx_below (Below.refl _ _), rfl⟩, ?_⟩
  simp only [Act.put, List.setIfInBounds_toArray, List.set_cons_succ, List.set_cons_zero]
  clear H2
  intro w6 H3 hfr
  clear hfr
  have hs := H3.get List.mem_cons_self
  have H : Has w [(b + 2, Z, 26), (b + 1, k.cells, 40), (b, c.cells, 26)] w6 := ⟨H3.below, fun p hp => H3.box p (List.mem_cons_of_mem _ hp)⟩
  clear H3
  go_wp2_with (first | (go_at_call 31; refine (end_c g i c d k p _ hs hp (hdo g)).mono ?_; rintro e w7 ⟨rfl, hB7⟩; dsimp only; replace H := H.but hB7 (by omega) hLg) | ((with_reducible refine wpList_store_over rfl 26 H hne _ _ rfl d.cells rfl rfl (Cor.info _) ?_ (Cor.one _) ?_); (focus (rw [hZ, Cor.size])); intro w9 H; simp only [Act.put]))
  refine bodyPost_ret (back_two rfl _ _ _ _ _ _ rfl (H.get List.mem_cons_self)) rfl ⟨rfl, by first | exact H.below | (rw [← hb]; exact H.below)⟩
end Go.Proofs.YtbjcdpmhmebjnaaGreat
