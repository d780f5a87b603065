/- The room that an instruction leaves to its fields, as roomOf gives it back: a contract, for every instruction. -/
import Derived.Test.YtcmilajlngnibaaK08
import Derived.Test.YtcmilajlngnibaaK09
import Derived.Test.YtcmilajlngnibaaK05
import Derived.Laws.CopyRow
import Derived.Laws.Rows
import Derived.Laws.Tables
namespace Go.Proofs.Ytcmilajlngnibaa
open Go.RowKit Go.Rel

theorem immW_below (i : Ins) (w : World) : Below w.heap.size w (immW i w) := by
  unfold immW
  cases (i.op == 1 || i.op == 4 || i.op == 6 || i.op == 5 || i.op == 34 || i.op == 35 || i.op == 33 || i.op == 37)
  · cases (i.op == 12 || i.op == 13 || i.op == 14 || i.op == 15)
    · exact below_alloc2 _ _ _
    · exact (below_alloc3 _ _ _ _).drew
  · exact below_alloc3 _ _ _ _
theorem amountW_below (op : Int) (w : World) : Below w.heap.size w (amountW op w) := by
  unfold amountW
  cases (op == 2 || op == 3 || op == 15 || op == 4)
  · exact below_alloc _ _
  · exact below_alloc2 _ _ _
theorem formW_below (op : Int) (w : World) : Below w.heap.size w (formW op w) := by
  unfold formW
  cases (op == 2 || op == 16)
  · cases (op == 3)
    · cases (op == 4)
      · cases (op == 10)
        · cases (op == 7 || op == 5)
          · cases (op == 9 || op == 11 || op == 21 || op == 23 || op == 24 || op == 26 || op == 33)
            · cases (op == 13)
              · exact Below.refl _ _
              · exact below_alloc _ _
            · exact below_alloc _ _
          · exact below_alloc _ _
        · exact below_alloc2 _ _ _
      · exact (below_alloc _ _).drew
    · exact (below_alloc2 _ _ _).drew
  · exact below_alloc _ _

theorem immOf_c (i : Ins) (w : World) : Calls Try.prog 75 #[i.val] w fun e w' => e = .returned (immS i.op i.sub).val ∧ Below w.heap.size w w' :=
  (immOf_x i w).mono fun _ _ ⟨h, hw⟩ => ⟨h, hw ▸ immW_below i w⟩
theorem amountOf_c (op : Int) (w : World) : Calls Try.prog 76 #[vI op] w fun e w' => e = .returned (amountS op).val ∧ Below w.heap.size w w' :=
  (amountOf_x op w).mono fun _ _ ⟨h, hw⟩ => ⟨h, hw ▸ amountW_below op w⟩

/-- The room's cells: x the Imm's, y the Amount's, z the Imm2's. -/
def cellsR (i : Ins) (x y z : Span) : Array Value := #[vI 0, vI (h31 (hasRd i.op)), vI (h1 (hasRd i.op)), vI 0, vI (h31 (hasRn i.op)), vI (h1 (hasRn i.op)), vI 0, vI (h31 (hasRm i.op)), vI (h1 (hasRm i.op)), vI 0, vI (h31 (hasRa i.op)), vI (h1 (hasRa i.op)), vI (subS i.op).lo, vI (subS i.op).hi, vI (subS i.op).st, vI x.lo, vI x.hi, vI x.st, vI z.lo, vI z.hi, vI z.st, vI y.lo, vI y.hi, vI y.st, vI (shiftS i.op).lo, vI (shiftS i.op).hi, vI (shiftS i.op).st, vI (condS i.op).lo, vI (condS i.op).hi, vI (condS i.op).st, .bool (flagsR i.op i.sub), .bool (minusR i.op), .bool (notR i.op), .bool (linkR i.op)]

theorem cells_one (i : Ins) (x y z : Span) : (cellsR i x y z).all (·.oneCell') = true := by simp [cellsR, Value.oneCell']
theorem imm2_4 {op : Int} (h : (op == 4) = true) : imm2S op = upToS 63 := by unfold imm2S; rw [h]; rfl
theorem imm2_6 {op : Int} (h : (op == 6) = true) : imm2S op = upToS 63 := by unfold imm2S; rw [h, Bool.or_true]; rfl
theorem imm2_no {op : Int} (h : (op == 4) = false) (h' : (op == 6) = false) : imm2S op = zeroS := by unfold imm2S; rw [h, h']; rfl

/-- Three blocks of the call's own: the instruction's box, the result, the room. -/
structure Room3 (i : Ins) (w0 : World) (Z R : Array Value) (w : World) : Prop where
  below : Below w0.heap.size w0 w
  box : w.heap[w0.heap.size]? = some (.cells i.cells 25)
  res : w.heap[w0.heap.size + 1]? = some (.cells Z 56)
  room : w.heap[w0.heap.size + 1 + 1]? = some (.cells R 56)

theorem Room3.lt {i : Ins} {w0 w : World} {Z R : Array Value} (h : Room3 i w0 Z R w) : w0.heap.size + 1 + 1 < w.heap.size := (Array.getElem?_eq_some_iff.1 h.room).1
theorem Room3.grow {i : Ins} {w0 w w' : World} {Z R : Array Value} (h : Room3 i w0 Z R w) (hb : Below w.heap.size w w') : Room3 i w0 Z R w' := by
  have := h.lt
  refine ⟨below_then h.below hb, ?_, ?_, ?_⟩
  · rw [hb.block _ (by omega)]; exact h.box
  · rw [hb.block _ (by omega)]; exact h.res
  · rw [hb.block _ (by omega)]; exact h.room

theorem setRow_other (w : World) (g k : Nat) (cs : Array Value) (h : k ≠ g) : (w.setRow g cs).heap[k]? = w.heap[k]? := by
  simp only [World.setRow, Array.getElem?_modify]
  rw [if_neg (fun e => h e.symm)]
theorem setRow_size (w : World) (g : Nat) (cs : Array Value) : (w.setRow g cs).heap.size = w.heap.size := by simp [World.setRow]

theorem Room3.setRoom {i : Ins} {w0 w : World} {Z R : Array Value} (h : Room3 i w0 Z R w) (R' : Array Value) : Room3 i w0 Z R' (w.setRow (w0.heap.size + 1 + 1) R') := by
  refine ⟨h.below.trans ⟨rfl, rfl, rfl, by rw [setRow_size]; exact Nat.le_refl _, fun k hk => setRow_other _ _ _ _ (by omega)⟩, ?_, ?_, ?_⟩
  · rw [setRow_other _ _ _ _ (by omega)]; exact h.box
  · rw [setRow_other _ _ _ _ (by omega)]; exact h.res
  · exact setRow_heap _ _ _ _ _ _ h.room
theorem Room3.setRes {i : Ins} {w0 w : World} {Z R : Array Value} (h : Room3 i w0 Z R w) (Z' : Array Value) : Room3 i w0 Z' R (w.setRow (w0.heap.size + 1) Z') := by
  refine ⟨h.below.trans ⟨rfl, rfl, rfl, by rw [setRow_size]; exact Nat.le_refl _, fun k hk => setRow_other _ _ _ _ (by omega)⟩, ?_, ?_, ?_⟩
  · rw [setRow_other _ _ _ _ (by omega)]; exact h.box
  · exact setRow_heap _ _ _ _ _ _ h.res
  · rw [setRow_other _ _ _ _ (by omega)]; exact h.room

/-- A value of some cells stored into the middle of a row. -/
theorem wpList_store_into {P : Program} {ops : Array Oper} {rest : List Oper} {o : Oper} {a : Act} {w : World} {Q : Exit → Act → World → Prop} (hgd : o.guard = none) (ty : TypeId) (x y : Operand) (ho : o.op = .store ty x y)
    (g k : Nat) (vs : List Value) (hx : a.eval x = .pointer (some ⟨g, k, none⟩)) (hy : a.eval y = .agg vs.toArray)
    (t : TypeId) (old : Array Value) (hg : w.heap[g]? = some (.cells old t (0, 0))) (hi : (P.info? ty).map (·.size) = some vs.length)
    (hlen : k + 0 + vs.length ≤ old.size) (h1 : ∀ v ∈ vs, v.oneCell' = true) (new : Array Value) (hnew : new = (old.toList.take (k + 0) ++ vs ++ old.toList.drop (k + 0 + vs.length)).toArray)
    (h : wpList P ops Q rest (a.put o.dst undef) (w.setRow g new)) : wpList P ops Q (o :: rest) a w := by
  refine wpList_plain hgd fun K hK => ?_
  have hst : (storeVar ty ⟨g, k, none⟩ (.agg vs.toArray)).run P w = .ok () (w.setRow g new) := by
    have := run_storeCells_at (P := P) g k t vs 0 old w hg hlen h1
    rw [← hnew] at this
    cases hq : P.info? ty with
    | none => simp [hq] at hi
    | some inf =>
      have hs : vs.length = inf.size := by simp [hq] at hi; omega
      simp [storeVar, sizeOf, typeInfo, hq, Value.cells, hs, this]
  unfold Oper.wp execOp
  simp only [ho, hx, hy, Instr.storeAt, Instr.sureAddr, Sem.run_bind, Sem.run_pure, Result.andThen_ok, hst]
  exact hK _ _ h

theorem rel_load_row {P : Program} {o : Oper} {a : Act} {w : World} (ty : TypeId) (x : Operand) (ho : o.op = .load ty x)
    (g : Nat) (hx : a.eval x = .pointer (some ⟨g, 0, none⟩)) (t : TypeId) (cs : Array Value) (fr : Nat × Nat) (d : TypeDesc) (hg : w.heap[g]? = some (.cells cs t fr))
    (hu : P.underlying ty = some d) (hd : (match d with | .struct _ | .array _ _ => true | _ => false) = true) (hi : (P.info? ty).map (·.size) = some cs.size) :
    relUpon P Grows (fun v _ => v = .agg cs) w ((execOp a.eval o).run P w) := by
  unfold execOp
  simp only [ho, hx, Instr.loadAt, Instr.sureAddr, Sem.run_bind, Sem.run_pure, Result.andThen_ok, run_loadVar_row w g t ty cs fr d hg hu hd hi]
  exact ⟨Below.refl _ _, rfl⟩

theorem room3_start {i : Ins} {w w' : World} {Z R : Array Value} (h : Below (((w.alloc (.cells i.cells 25)).alloc (.cells Z 56)).alloc (.cells R 56)).heap.size (((w.alloc (.cells i.cells 25)).alloc (.cells Z 56)).alloc (.cells R 56)) w') : Room3 i w Z R w' := by
  refine Room3.grow (w := ((w.alloc (.cells i.cells 25)).alloc (.cells Z 56)).alloc (.cells R 56)) ?_ h
  have e1 : (w.alloc (.cells i.cells 25)).heap.size = w.heap.size + 1 := Array.size_push ..
  have e2 : ((w.alloc (.cells i.cells 25)).alloc (.cells Z 56)).heap.size = w.heap.size + 1 + 1 := by rw [← e1]; exact Array.size_push ..
  refine ⟨below_alloc3 _ _ _ _, ?_, ?_, ?_⟩
  · rw [Below.heap_alloc _ _ _ (by omega), Below.heap_alloc _ _ _ (by omega), heap_alloc_new]
  · rw [Below.heap_alloc _ _ _ (by omega), ← e1, heap_alloc_new]
  · rw [← e2, heap_alloc_new]

theorem setForm_r (i : Ins) (o1 o2 : Obj) (w : World) (b : Nat) (hb : b = w.heap.size) :
    Calls Try.prog 74 #[.pointer (some ⟨b, 0, none⟩), i.val] (((w.alloc (.cells #[vI 0, vI (h31 (hasRd i.op)), vI (h1 (hasRd i.op)), vI 0, vI (h31 (hasRn i.op)), vI (h1 (hasRn i.op)), vI 0, vI (h31 (hasRm i.op)), vI (h1 (hasRm i.op)), vI 0, vI (h31 (hasRa i.op)), vI (h1 (hasRa i.op)), vI 0, vI 0, vI 0, vI 0, vI 0, vI 0, vI 0, vI 0, vI 0, vI 0, vI 0, vI 0, vI 0, vI 0, vI 0, vI 0, vI 0, vI 0, .bool false, .bool false, .bool false, .bool false] 56)).alloc o1).alloc o2) fun e w' => e = .returned (.tuple #[]) ∧
      Below (w.alloc (.cells (cellsR i zeroS zeroS zeroS) 56)).heap.size (w.alloc (.cells (cellsR i zeroS zeroS zeroS) 56)) w' := by
  refine (setForm_b i _ _ _ _ _ _ _ _ o1 o2 w b hb).mono ?_
  rintro e w' ⟨h, hw⟩
  refine ⟨h, ?_⟩
  rw [hw]
  exact below_then (below_alloc3 _ _ _ _) (formW_below _ _)

theorem Room3.op {i : Ins} {w0 w : World} {Z R : Array Value} (h : Room3 i w0 Z R w) : w.cell? ⟨w0.heap.size, 0, none⟩ = some (vI i.op) := by
  simp [World.cell?, h.box]

set_option maxRecDepth 8000 in
set_option maxHeartbeats 8000000 in
theorem roomOf_c (i : Ins) (w : World) :
    Calls Try.prog 52 #[i.val] w fun e w' => e = .returned (.agg (cellsR i (immS i.op i.sub) (amountS i.op) (imm2S i.op))) ∧ Below w.heap.size w w' := by
  go_enter Try.func52, Try.ntmps52
  repeat' (first | with_reducible refine then_exit ?_ | with_reducible refine then_normal ?_ | with_reducible refine inBlock_eq ?_ | with_reducible refine inBlock_ne rfl ?_ | with_reducible refine inBlock_normal ?_ | (go_at_call 73; refine (setRegisters_b _ _ _ (by simp)).mono ?_; rintro e w' ⟨rfl, rfl⟩; dsimp only) | (go_at_call 74; refine (setForm_r i _ _ _ _ (by simp)).mono ?_; rintro e w' ⟨rfl, hw'⟩; dsimp only) | go_step)
  obtain ⟨Z, hZ, H3⟩ : ∃ Z : Array Value, Z.size = 34 ∧ Room3 i w Z (cellsR i zeroS zeroS zeroS) w' := ⟨_, by rfl, room3_start hw'⟩
  clear hw'
  refine wp_region_tail 5 Grows (fun x => Below w'.heap.size w' x) [.inl i.val, .inl (immS i.op i.sub).val, .inl (.pointer (some ⟨w.heap.size, 0, none⟩)), .inl (vI i.op), .inl (amountS i.op).val] (by kernel_rfl) (by kernel_rfl) (up_below w') ⟨rfl, rfl, rfl, Nat.le_refl _, fun _ _ => rfl⟩ (by simp [upK]) ?_
  refine ⟨fun w1 hC _ => rel_load_row 25 _ rfl w.heap.size rfl 25 i.cells (0, 0) _ (H3.grow hC).box Try.underlying25 rfl (by kernel_rfl), ?_⟩
  refine ⟨fun w1 hC _ => ?_, ?_⟩
  · go_simp
    refine (immOf_c i w1).mono ?_
    rintro e w2 ⟨rfl, hb⟩
    exact ⟨rfl, hb⟩
  refine ⟨fun w1 hC _ => ?_, ?_⟩
  · go_simp
    exact Below.refl _ _
  refine ⟨fun w1 hC _ => ?_, ?_⟩
  · have hop := (H3.grow hC).op
    go_simp
    exact Below.refl _ _
  refine ⟨fun w1 hC _ => ?_, ?_⟩
  · go_simp
    refine (amountOf_c i.op w1).mono ?_
    rintro e w2 ⟨rfl, hb⟩
    exact ⟨rfl, hb⟩
  intro w1 hC _
  replace H3 := H3.grow hC
  clear hC
  simp only [List.drop_succ_cons, List.drop_zero, Act.put, List.setIfInBounds_toArray, List.set_cons_succ, List.set_cons_zero]
  iterate 3 go_step
  refine wpList_store_into rfl 54 _ _ rfl (w.heap.size + 1 + 1) 15 [vI (immS i.op i.sub).lo, vI (immS i.op i.sub).hi, vI (immS i.op i.sub).st] rfl rfl 56 _ H3.room (by kernel_rfl) (by simp [cellsR]) (by simp [Value.oneCell']) (cellsR i (immS i.op i.sub) zeroS zeroS) rfl ?_
  replace H3 := H3.setRoom (cellsR i (immS i.op i.sub) zeroS zeroS)
  revert H3
  generalize w1.setRow _ _ = w2
  intro H3
  simp only [Act.put]
  iterate 3 go_step
  refine wpList_store_into rfl 54 _ _ rfl (w.heap.size + 1 + 1) 21 [vI (amountS i.op).lo, vI (amountS i.op).hi, vI (amountS i.op).st] rfl rfl 56 _ H3.room (by kernel_rfl) (by simp [cellsR]) (by simp [Value.oneCell']) (cellsR i (immS i.op i.sub) (amountS i.op) zeroS) rfl ?_
  replace H3 := H3.setRoom (cellsR i (immS i.op i.sub) (amountS i.op) zeroS)
  revert H3
  generalize w2.setRow _ _ = w3
  intro H3
  simp only [Act.put]
  have hop := H3.op
  by_cases h4 : (i.op == 4) = true
  · go_upto_region 6 with fail
    iterate 3 go_step
    refine (upTo_c _ _).mono ?_
    rintro e w4 ⟨rfl, rfl⟩
    dsimp only
    replace H3 := H3.grow (below_alloc w3 (.cells #[vI 0, vI 63, vI 1] 54))
    revert H3
    generalize w3.alloc _ = w5
    intro H3
    clear hop
    iterate 4 go_step
    refine wpList_store_into rfl 54 _ _ rfl (w.heap.size + 1 + 1) 18 [vI 0, vI 63, vI 1] rfl rfl 56 _ H3.room (by kernel_rfl) (by simp [cellsR]) (by simp [Value.oneCell']) (cellsR i (immS i.op i.sub) (amountS i.op) (upToS 63)) rfl ?_
    replace H3 := H3.setRoom (cellsR i (immS i.op i.sub) (amountS i.op) (upToS 63))
    revert H3
    generalize w5.setRow _ _ = w6
    intro H3
    simp only [Act.put]
    go_upto_region 7 with fail
    go_step
    refine wpList_load_row rfl 56 _ rfl (w.heap.size + 1 + 1) rfl 56 _ (0, 0) _ H3.room Try.underlying56 rfl (by kernel_rfl) ?_
    simp only [Act.put, List.setIfInBounds_toArray, List.set_cons_succ, List.set_cons_zero]
    refine wpList_store_row rfl 56 _ _ rfl (w.heap.size + 1) _ rfl rfl 56 Z H3.res (by kernel_rfl) (by rw [hZ]; rfl) (cells_one _ _ _ _) ?_
    replace H3 := H3.setRes (cellsR i (immS i.op i.sub) (amountS i.op) (upToS 63))
    revert H3
    generalize w6.setRow _ _ = w7
    intro H3
    simp only [Act.put]
    iterate 4 go_step
    refine bodyPost_ret (v := .agg (cellsR i (immS i.op i.sub) (amountS i.op) (upToS 63))) (results_cell_row rfl _ _ (w.heap.size + 1) 56 _ (0, 0) _ rfl H3.res Try.underlying56 rfl (by kernel_rfl)) rfl ⟨?_, H3.below⟩
    rw [imm2_4 h4]
  · have h4 : (i.op == 4) = false := by simpa using h4
    by_cases h6 : (i.op == 6) = true
    · go_upto_region 6 with fail
      iterate 3 go_step
      refine (upTo_c _ _).mono ?_
      rintro e w4 ⟨rfl, rfl⟩
      dsimp only
      replace H3 := H3.grow (below_alloc w3 (.cells #[vI 0, vI 63, vI 1] 54))
      revert H3
      generalize w3.alloc _ = w5
      intro H3
      clear hop
      iterate 4 go_step
      refine wpList_store_into rfl 54 _ _ rfl (w.heap.size + 1 + 1) 18 [vI 0, vI 63, vI 1] rfl rfl 56 _ H3.room (by kernel_rfl) (by simp [cellsR]) (by simp [Value.oneCell']) (cellsR i (immS i.op i.sub) (amountS i.op) (upToS 63)) rfl ?_
      replace H3 := H3.setRoom (cellsR i (immS i.op i.sub) (amountS i.op) (upToS 63))
      revert H3
      generalize w5.setRow _ _ = w6
      intro H3
      simp only [Act.put]
      go_upto_region 7 with fail
      go_step
      refine wpList_load_row rfl 56 _ rfl (w.heap.size + 1 + 1) rfl 56 _ (0, 0) _ H3.room Try.underlying56 rfl (by kernel_rfl) ?_
      simp only [Act.put, List.setIfInBounds_toArray, List.set_cons_succ, List.set_cons_zero]
      refine wpList_store_row rfl 56 _ _ rfl (w.heap.size + 1) _ rfl rfl 56 Z H3.res (by kernel_rfl) (by rw [hZ]; rfl) (cells_one _ _ _ _) ?_
      replace H3 := H3.setRes (cellsR i (immS i.op i.sub) (amountS i.op) (upToS 63))
      revert H3
      generalize w6.setRow _ _ = w7
      intro H3
      simp only [Act.put]
      iterate 4 go_step
      refine bodyPost_ret (v := .agg (cellsR i (immS i.op i.sub) (amountS i.op) (upToS 63))) (results_cell_row rfl _ _ (w.heap.size + 1) 56 _ (0, 0) _ rfl H3.res Try.underlying56 rfl (by kernel_rfl)) rfl ⟨?_, H3.below⟩
      rw [imm2_6 h6]
    · have h6 : (i.op == 6) = false := by simpa using h6
      go_upto_region 7 with fail
      go_step
      refine wpList_load_row rfl 56 _ rfl (w.heap.size + 1 + 1) rfl 56 _ (0, 0) _ H3.room Try.underlying56 rfl (by kernel_rfl) ?_
      simp only [Act.put, List.setIfInBounds_toArray, List.set_cons_succ, List.set_cons_zero]
      refine wpList_store_row rfl 56 _ _ rfl (w.heap.size + 1) _ rfl rfl 56 Z H3.res (by kernel_rfl) (by rw [hZ]; rfl) (cells_one _ _ _ _) ?_
      replace H3 := H3.setRes (cellsR i (immS i.op i.sub) (amountS i.op) zeroS)
      revert H3
      generalize w3.setRow _ _ = w7
      intro H3
      simp only [Act.put]
      iterate 4 go_step
      refine bodyPost_ret (v := .agg (cellsR i (immS i.op i.sub) (amountS i.op) zeroS)) (results_cell_row rfl _ _ (w.heap.size + 1) 56 _ (0, 0) _ rfl H3.res Try.underlying56 rfl (by kernel_rfl)) rfl ⟨?_, H3.below⟩
      rw [imm2_no h4 h6]
end Go.Proofs.Ytcmilajlngnibaa
