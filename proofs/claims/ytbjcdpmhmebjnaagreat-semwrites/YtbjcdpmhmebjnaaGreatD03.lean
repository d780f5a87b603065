/- The room that an instruction leaves to its fields, as roomOf gives it back: a contract, for every instruction. -/
import Derived.Test.YtbjcdpmhmebjnaaGreatD02
import Derived.Laws.CopyRow
import Derived.Laws.Rows
import Derived.Laws.Tables
namespace Go.Proofs.YtbjcdpmhmebjnaaGreat
open Go.RowKit Go.Rel

theorem immW_below (i : Ins) (w : World) : Below w.heap.size w (immW i w) := by
  unfold immW
  cases (i.op == 1 || i.op == 4 || i.op == 6 || i.op == 5 || i.op == 34 || i.op == 35 || i.op == 33 || i.op == 37)
  · cases (i.op == 12 || i.op == 13 || i.op == 14 || i.op == 15)
    · exact below_alloc2 _ _ _
    · exact (below_alloc3 _ _ _ _).drew
  · exact below_alloc3 _ _ _ _
theorem amountW_below (op : Int) (w : World) : Below w.heap.size w (amountW op w) := by
  unfold amountW
  cases (op == 2 || op == 3 || op == 15 || op == 4)
  · exact below_alloc _ _
  · exact below_alloc2 _ _ _
theorem formW_below (op : Int) (w : World) : Below w.heap.size w (formW op w) := by
  unfold formW
  cases (op == 2 || op == 16)
  · cases (op == 3)
    · cases (op == 4)
      · cases (op == 10)
        · cases (op == 7 || op == 5)
          · cases (op == 9 || op == 11 || op == 21 || op == 23 || op == 24 || op == 26 || op == 33)
            · cases (op == 13)
              · exact Below.refl _ _
              · exact below_alloc _ _
            · exact below_alloc _ _
          · exact below_alloc _ _
        · exact below_alloc2 _ _ _
      · exact (below_alloc _ _).drew
    · exact (below_alloc2 _ _ _).drew
  · exact below_alloc _ _

theorem immOf_c (i : Ins) (w : World) : Calls Tryz.prog 174 #[i.val] w fun e w' => e = .returned (immS i.op i.sub).val ∧ Below w.heap.size w w' :=
  (immOf_x i w).mono fun _ _ ⟨h, hw⟩ => ⟨h, hw ▸ immW_below i w⟩
theorem amountOf_c (op : Int) (w : World) : Calls Tryz.prog 175 #[vI op] w fun e w' => e = .returned (amountS op).val ∧ Below w.heap.size w w' :=
  (amountOf_x op w).mono fun _ _ ⟨h, hw⟩ => ⟨h, hw ▸ amountW_below op w⟩

/-- The room's cells: x the Imm's, y the Amount's, z the Imm2's. -/
def cellsR (i : Ins) (x y z : Span) : Array Value := #[vI 0, vI (h31 (hasRd i.op)), vI (h1 (hasRd i.op)), vI 0, vI (h31 (hasRn i.op)), vI (h1 (hasRn i.op)), vI 0, vI (h31 (hasRm i.op)), vI (h1 (hasRm i.op)), vI 0, vI (h31 (hasRa i.op)), vI (h1 (hasRa i.op)), vI (subS i.op).lo, vI (subS i.op).hi, vI (subS i.op).st, vI x.lo, vI x.hi, vI x.st, vI z.lo, vI z.hi, vI z.st, vI y.lo, vI y.hi, vI y.st, vI (shiftS i.op).lo, vI (shiftS i.op).hi, vI (shiftS i.op).st, vI (condS i.op).lo, vI (condS i.op).hi, vI (condS i.op).st, .bool (flagsR i.op i.sub), .bool (minusR i.op), .bool (notR i.op), .bool (linkR i.op)]

theorem cells_one (i : Ins) (x y z : Span) : (cellsR i x y z).all (·.oneCell') = true := by simp [cellsR, Value.oneCell']
theorem imm2_4 {op : Int} (h : (op == 4) = true) : imm2S op = upToS 63 := by unfold imm2S; rw [h]; rfl
theorem imm2_6 {op : Int} (h : (op == 6) = true) : imm2S op = upToS 63 := by unfold imm2S; rw [h, Bool.or_true]; rfl
theorem imm2_no {op : Int} (h : (op == 4) = false) (h' : (op == 6) = false) : imm2S op = zeroS := by unfold imm2S; rw [h, h']; rfl

/-- Three blocks of the call's own: the instruction's box, the result, the room. -/
structure Room3 (i : Ins) (w0 : World) (Z R : Array Value) (w : World) : Prop where
  below : Below w0.heap.size w0 w
  box : w.heap[w0.heap.size]? = some (.cells i.cells 47)
  res : w.heap[w0.heap.size + 1]? = some (.cells Z 107)
  room : w.heap[w0.heap.size + 1 + 1]? = some (.cells R 107)

theorem Room3.lt {i : Ins} {w0 w : World} {Z R : Array Value} (h : Room3 i w0 Z R w) : w0.heap.size + 1 + 1 < w.heap.size := (Array.getElem?_eq_some_iff.1 h.room).1
theorem Room3.grow {i : Ins} {w0 w w' : World} {Z R : Array Value} (h : Room3 i w0 Z R w) (hb : Below w.heap.size w w') : Room3 i w0 Z R w' := by
  have := h.lt
  refine ⟨below_then h.below hb, ?_, ?_, ?_⟩
  · rw [hb.block _ (by omega)]; exact h.box
  · rw [hb.block _ (by omega)]; exact h.res
  · rw [hb.block _ (by omega)]; exact h.room

theorem setRow_other (w : World) (g k : Nat) (cs : Array Value) (h : k ≠ g) : (w.setRow g cs).heap[k]? = w.heap[k]? := by
  simp only [World.setRow, Array.getElem?_modify]
  rw [if_neg (fun e => h e.symm)]
theorem setRow_size (w : World) (g : Nat) (cs : Array Value) : (w.setRow g cs).heap.size = w.heap.size := by simp [World.setRow]

theorem Room3.setRoom {i : Ins} {w0 w : World} {Z R : Array Value} (h : Room3 i w0 Z R w) (R' : Array Value) : Room3 i w0 Z R' (w.setRow (w0.heap.size + 1 + 1) R') := by
  refine ⟨h.below.trans ⟨rfl, rfl, rfl, by rw [setRow_size]; exact Nat.le_refl _, fun k hk => setRow_other _ _ _ _ (by omega)⟩, ?_, ?_, ?_⟩
  · rw [setRow_other _ _ _ _ (by omega)]; exact h.box
  · rw [setRow_other _ _ _ _ (by omega)]; exact h.res
  · exact setRow_heap _ _ _ _ _ _ h.room
theorem Room3.setRes {i : Ins} {w0 w : World} {Z R : Array Value} (h : Room3 i w0 Z R w) (Z' : Array Value) : Room3 i w0 Z' R (w.setRow (w0.heap.size + 1) Z') := by
  refine ⟨h.below.trans ⟨rfl, rfl, rfl, by rw [setRow_size]; exact Nat.le_refl _, fun k hk => setRow_other _ _ _ _ (by omega)⟩, ?_, ?_, ?_⟩
  · rw [setRow_other _ _ _ _ (by omega)]; exact h.box
  · exact setRow_heap _ _ _ _ _ _ h.res
  · rw [setRow_other _ _ _ _ (by omega)]; exact h.room

/-- A value of some cells stored into the middle of a row. -/
theorem wpList_store_into {P : Program} {ops : Array Oper} {rest : List Oper} {o : Oper} {a : Act} {w : World} {Q : Exit → Act → World → Prop} (hgd : o.guard = none) (ty : TypeId) (x y : Operand) (ho : o.op = .store ty x y)
    (g k : Nat) (vs : List Value) (hx : a.eval x = .pointer (some ⟨g, k, none⟩)) (hy : a.eval y = .agg vs.toArray)
    (t : TypeId) (old : Array Value) (hg : w.heap[g]? = some (.cells old t (0, 0))) (hi : (P.info? ty).map (·.size) = some vs.length)
    (hlen : k + 0 + vs.length ≤ old.size) (h1 : ∀ v ∈ vs, v.oneCell' = true) (new : Array Value) (hnew : new = (old.toList.take (k + 0) ++ vs ++ old.toList.drop (k + 0 + vs.length)).toArray)
    (h : wpList P ops Q rest (a.put o.dst undef) (w.setRow g new)) : wpList P ops Q (o :: rest) a w := by
  refine wpList_plain hgd fun K hK => ?_
  have hst : (storeVar ty ⟨g, k, none⟩ (.agg vs.toArray)).run P w = .ok () (w.setRow g new) := by
    have := run_storeCells_at (P := P) g k t vs 0 old w hg hlen h1
    rw [← hnew] at this
    cases hq : P.info? ty with
    | none => simp [hq] at hi
    | some inf =>
      have hs : vs.length = inf.size := by simp [hq] at hi; omega
      simp [storeVar, sizeOf, typeInfo, hq, Value.cells, hs, this]
  unfold Oper.wp execOp
  simp only [ho, hx, hy, Instr.storeAt, Instr.sureAddr, Sem.run_bind, Sem.run_pure, Result.andThen_ok, hst]
  exact hK _ _ h

theorem rel_load_row {P : Program} {o : Oper} {a : Act} {w : World} (ty : TypeId) (x : Operand) (ho : o.op = .load ty x)
    (g : Nat) (hx : a.eval x = .pointer (some ⟨g, 0, none⟩)) (t : TypeId) (cs : Array Value) (fr : Nat × Nat) (d : TypeDesc) (hg : w.heap[g]? = some (.cells cs t fr))
    (hu : P.underlying ty = some d) (hd : (match d with | .struct _ | .array _ _ => true | _ => false) = true) (hi : (P.info? ty).map (·.size) = some cs.size) :
    relUpon P Grows (fun v _ => v = .agg cs) w ((execOp a.eval o).run P w) := by
  unfold execOp
  simp only [ho, hx, Instr.loadAt, Instr.sureAddr, Sem.run_bind, Sem.run_pure, Result.andThen_ok, run_loadVar_row w g t ty cs fr d hg hu hd hi]
  exact ⟨Below.refl _ _, rfl⟩

theorem room3_start {i : Ins} {w w' : World} {Z R : Array Value} (h : Below (((w.alloc (.cells i.cells 47)).alloc (.cells Z 107)).alloc (.cells R 107)).heap.size (((w.alloc (.cells i.cells 47)).alloc (.cells Z 107)).alloc (.cells R 107)) w') : Room3 i w Z R w' := by
  refine Room3.grow (w := ((w.alloc (.cells i.cells 47)).alloc (.cells Z 107)).alloc (.cells R 107)) ?_ h
  have e1 : (w.alloc (.cells i.cells 47)).heap.size = w.heap.size + 1 := Array.size_push ..
  have e2 : ((w.alloc (.cells i.cells 47)).alloc (.cells Z 107)).heap.size = w.heap.size + 1 + 1 := by rw [← e1]; exact Array.size_push ..
  refine ⟨below_alloc3 _ _ _ _, ?_, ?_, ?_⟩
  · rw [Below.heap_alloc _ _ _ (by omega), Below.heap_alloc _ _ _ (by omega), heap_alloc_new]
  · rw [Below.heap_alloc _ _ _ (by omega), ← e1, heap_alloc_new]
  · rw [← e2, heap_alloc_new]

theorem setForm_r (i : Ins) (o1 o2 : Obj) (w : World) (b : Nat) (hb : b = w.heap.size) :
    Calls Tryz.prog 173 #[.pointer (some ⟨b, 0, none⟩), i.val] (((w.alloc (.cells #[vI 0, vI (h31 (hasRd i.op)), vI (h1 (hasRd i.op)), vI 0, vI (h31 (hasRn i.op)), vI (h1 (hasRn i.op)), vI 0, vI (h31 (hasRm i.op)), vI (h1 (hasRm i.op)), vI 0, vI (h31 (hasRa i.op)), vI (h1 (hasRa i.op)), vI 0, vI 0, vI 0, vI 0, vI 0, vI 0, vI 0, vI 0, vI 0, vI 0, vI 0, vI 0, vI 0, vI 0, vI 0, vI 0, vI 0, vI 0, .bool false, .bool false, .bool false, .bool false] 107)).alloc o1).alloc o2) fun e w' => e = .returned (.tuple #[]) ∧
      Below (w.alloc (.cells (cellsR i zeroS zeroS zeroS) 107)).heap.size (w.alloc (.cells (cellsR i zeroS zeroS zeroS) 107)) w' := by
  refine (setForm_b i _ _ _ _ _ _ _ _ o1 o2 w b hb).mono ?_
  rintro e w' ⟨h, hw⟩
  refine ⟨h, ?_⟩
  rw [hw]
  exact below_then (below_alloc3 _ _ _ _) (formW_below _ _)

theorem Room3.op {i : Ins} {w0 w : World} {Z R : Array Value} (h : Room3 i w0 Z R w) : w.cell? ⟨w0.heap.size, 0, none⟩ = some (vI i.op) := by
  simp [World.cell?, h.box]

set_option maxRecDepth 8000 in
set_option maxHeartbeats 8000000 in
theorem roomOf_c (i : Ins) (w : World) :
    Calls Tryz.prog 92 #[i.val] w fun e w' => e = .returned (.agg (cellsR i (immS i.op i.sub) (amountS i.op) (imm2S i.op))) ∧ Below w.heap.size w w' := by
  go_enter Tryz.func92, Tryz.ntmps92
  repeat' (first | with_reducible refine then_exit ?_ | with_reducible refine then_normal ?_ | with_reducible refine inBlock_eq ?_ | with_reducible refine inBlock_ne rfl ?_ | with_reducible refine inBlock_normal ?_ | (go_at_call 172; refine (setRegisters_b _ _ _ (by simp)).mono ?_; rintro e w' ⟨rfl, rfl⟩; dsimp only) | (go_at_call 173; refine (setForm_r i _ _ _ _ (by simp)).mono ?_; rintro e w' ⟨rfl, hw'⟩; dsimp only) | go_step)
  obtain ⟨Z, hZ, H3⟩ : ∃ Z : Array Value, Z.size = 34 ∧ Room3 i w Z (cellsR i zeroS zeroS zeroS) w' := ⟨_, by rfl, room3_start hw'⟩
  clear hw'
  refine wp_region_tail 5 Grows (fun x => Below w'.heap.size w' x) [.inl i.val, .inl (immS i.op i.sub).val, .inl (.pointer (some ⟨w.heap.size, 0, none⟩)), .inl (vI i.op), .inl (amountS i.op).val] (by kernel_rfl) (by kernel_rfl) (up_below w') ⟨rfl, rfl, rfl, Nat.le_refl _, fun _ _ => rfl⟩ (by simp [upK]) ?_
  refine ⟨fun w1 hC _ => rel_load_row 47 _ rfl w.heap.size rfl 47 i.cells (0, 0) _ (H3.grow hC).box Tryz.underlying47 rfl (by kernel_rfl), ?_⟩
  refine ⟨fun w1 hC _ => ?_, ?_⟩
  · go_simp
    refine (immOf_c i w1).mono ?_
    rintro e w2 ⟨rfl, hb⟩
    exact ⟨rfl, hb⟩
  refine ⟨fun w1 hC _ => ?_, ?_⟩
  · go_simp
    exact Below.refl _ _
  refine ⟨fun w1 hC _ => ?_, ?_⟩
  · have hop := (H3.grow hC).op
    go_simp
    exact Below.refl _ _
  refine ⟨fun w1 hC _ => ?_, ?_⟩
  · go_simp
    refine (amountOf_c i.op w1).mono ?_
    rintro e w2 ⟨rfl, hb⟩
    exact ⟨rfl, hb⟩
  intro w1 hC _
  replace H3 := H3.grow hC
  clear hC
  simp only [List.drop_succ_cons, List.drop_zero, Act.put, List.setIfInBounds_toArray, List.set_cons_succ, List.set_cons_zero]
  iterate 3 go_step
  refine wpList_store_into rfl 105 _ _ rfl (w.heap.size + 1 + 1) 15 [vI (immS i.op i.sub).lo, vI (immS i.op i.sub).hi, vI (immS i.op i.sub).st] rfl rfl 107 _ H3.room (by kernel_rfl) (by simp [cellsR]) (by simp [Value.oneCell']) (cellsR i (immS i.op i.sub) zeroS zeroS) rfl ?_
  replace H3 := H3.setRoom (cellsR i (immS i.op i.sub) zeroS zeroS)
  revert H3
  generalize w1.setRow _ _ = w2
  intro H3
  simp only [Act.put]
  iterate 3 go_step
  refine wpList_store_into rfl 105 _ _ rfl (w.heap.size + 1 + 1) 21 [vI (amountS i.op).lo, vI (amountS i.op).hi, vI (amountS i.op).st] rfl rfl 107 _ H3.room (by kernel_rfl) (by simp [cellsR]) (by simp [Value.oneCell']) (cellsR i (immS i.op i.sub) (amountS i.op) zeroS) rfl ?_
  replace H3 := H3.setRoom (cellsR i (immS i.op i.sub) (amountS i.op) zeroS)
  revert H3
  generalize w2.setRow _ _ = w3
  intro H3
  simp only [Act.put]
  have hop := H3.op
  by_cases h4 : (i.op == 4) = true
  · go_upto_region 6 with fail
    iterate 3 go_step
    refine (upTo_c _ _).mono ?_
    rintro e w4 ⟨rfl, rfl⟩
    dsimp only
    replace H3 := H3.grow (below_alloc w3 (.cells #[vI 0, vI 63, vI 1] 105))
    revert H3
    generalize w3.alloc _ = w5
    intro H3
    clear hop
    iterate 4 go_step
    refine wpList_store_into rfl 105 _ _ rfl (w.heap.size + 1 + 1) 18 [vI 0, vI 63, vI 1] rfl rfl 107 _ H3.room (by kernel_rfl) (by simp [cellsR]) (by simp [Value.oneCell']) (cellsR i (immS i.op i.sub) (amountS i.op) (upToS 63)) rfl ?_
    replace H3 := H3.setRoom (cellsR i (immS i.op i.sub) (amountS i.op) (upToS 63))
    revert H3
    generalize w5.setRow _ _ = w6
    intro H3
    simp only [Act.put]
    go_upto_region 7 with fail
    go_step
    refine wpList_load_row rfl 107 _ rfl (w.heap.size + 1 + 1) rfl 107 _ (0, 0) _ H3.room Tryz.underlying107 rfl (by kernel_rfl) ?_
    simp only [Act.put, List.setIfInBounds_toArray, List.set_cons_succ, List.set_cons_zero]
    refine wpList_store_row rfl 107 _ _ rfl (w.heap.size + 1) _ rfl rfl 107 Z H3.res (by kernel_rfl) (by rw [hZ]; rfl) (cells_one _ _ _ _) ?_
    replace H3 := H3.setRes (cellsR i (immS i.op i.sub) (amountS i.op) (upToS 63))
    revert H3
    generalize w6.setRow _ _ = w7
    intro H3
    simp only [Act.put]
    iterate 4 go_step
    refine bodyPost_ret (v := .agg (cellsR i (immS i.op i.sub) (amountS i.op) (upToS 63))) (results_cell_row rfl _ _ (w.heap.size + 1) 107 _ (0, 0) _ rfl H3.res Tryz.underlying107 rfl (by kernel_rfl)) rfl ⟨?_, H3.below⟩
    rw [imm2_4 h4]
  · have h4 : (i.op == 4) = false := by simpa using h4
    by_cases h6 : (i.op == 6) = true
    · go_upto_region 6 with fail
      iterate 3 go_step
      refine (upTo_c _ _).mono ?_
      rintro e w4 ⟨rfl, rfl⟩
      dsimp only
      replace H3 := H3.grow (below_alloc w3 (.cells #[vI 0, vI 63, vI 1] 105))
      revert H3
      generalize w3.alloc _ = w5
      intro H3
      clear hop
      iterate 4 go_step
      refine wpList_store_into rfl 105 _ _ rfl (w.heap.size + 1 + 1) 18 [vI 0, vI 63, vI 1] rfl rfl 107 _ H3.room (by kernel_rfl) (by simp [cellsR]) (by simp [Value.oneCell']) (cellsR i (immS i.op i.sub) (amountS i.op) (upToS 63)) rfl ?_
      replace H3 := H3.setRoom (cellsR i (immS i.op i.sub) (amountS i.op) (upToS 63))
      revert H3
      generalize w5.setRow _ _ = w6
      intro H3
      simp only [Act.put]
      go_upto_region 7 with fail
      go_step
      refine wpList_load_row rfl 107 _ rfl (w.heap.size + 1 + 1) rfl 107 _ (0, 0) _ H3.room Tryz.underlying107 rfl (by kernel_rfl) ?_
      simp only [Act.put, List.setIfInBounds_toArray, List.set_cons_succ, List.set_cons_zero]
      refine wpList_store_row rfl 107 _ _ rfl (w.heap.size + 1) _ rfl rfl 107 Z H3.res (by kernel_rfl) (by rw [hZ]; rfl) (cells_one _ _ _ _) ?_
      replace H3 := H3.setRes (cellsR i (immS i.op i.sub) (amountS i.op) (upToS 63))
      revert H3
      generalize w6.setRow _ _ = w7
      intro H3
      simp only [Act.put]
      iterate 4 go_step
      refine bodyPost_ret (v := .agg (cellsR i (immS i.op i.sub) (amountS i.op) (upToS 63))) (results_cell_row rfl _ _ (w.heap.size + 1) 107 _ (0, 0) _ rfl H3.res Tryz.underlying107 rfl (by kernel_rfl)) rfl ⟨?_, H3.below⟩
      rw [imm2_6 h6]
    · have h6 : (i.op == 6) = false := by simpa using h6
      go_upto_region 7 with fail
      go_step
      refine wpList_load_row rfl 107 _ rfl (w.heap.size + 1 + 1) rfl 107 _ (0, 0) _ H3.room Tryz.underlying107 rfl (by kernel_rfl) ?_
      simp only [Act.put, List.setIfInBounds_toArray, List.set_cons_succ, List.set_cons_zero]
      refine wpList_store_row rfl 107 _ _ rfl (w.heap.size + 1) _ rfl rfl 107 Z H3.res (by kernel_rfl) (by rw [hZ]; rfl) (cells_one _ _ _ _) ?_
      replace H3 := H3.setRes (cellsR i (immS i.op i.sub) (amountS i.op) zeroS)
      revert H3
      generalize w3.setRow _ _ = w7
      intro H3
      simp only [Act.put]
      iterate 4 go_step
      refine bodyPost_ret (v := .agg (cellsR i (immS i.op i.sub) (amountS i.op) zeroS)) (results_cell_row rfl _ _ (w.heap.size + 1) 107 _ (0, 0) _ rfl H3.res Tryz.underlying107 rfl (by kernel_rfl)) rfl ⟨?_, H3.below⟩
      rw [imm2_no h4 h6]
end Go.Proofs.YtbjcdpmhmebjnaaGreat
/- What a span holds, and whether the numbers and signs of an instruction are in its room: contracts. -/
namespace Go.Proofs.YtbjcdpmhmebjnaaGreat
open Go.RowKit Go.Rel


set_option maxHeartbeats 400000 in
theorem holds_c (lo hi st n : Int) (hs : Hid (st ≠ 0 ∨ (lo = 0 ∧ hi = 0))) (w : World) :
    Calls Tryz.prog 177 #[.agg #[vI lo, vI hi, vI st], vI n] w fun e w' => e = .returned (.bool (holdsB ⟨lo, hi, st⟩ n)) ∧ w' = w.alloc (.cells #[vI lo, vI hi, vI st] 105) := by
  by_cases h1 : lo ≤ n
  · by_cases h2 : n ≤ hi
    · by_cases h3 : (n == 0) = true
      · have hR : Hid (holdsB ⟨lo, hi, st⟩ n = true) := by show _ = _; simp [holdsB, h1, h2, h3]
        go_enter Tryz.func177, Tryz.ntmps177
        go_wp2
        go_ret
        exact ⟨ret_bool hR.out.symm, rfl⟩
      · have h3 : (n == 0) = false := by simpa using h3
        have h4 : ¬ st = 0 := by
          rcases hs.out with h | ⟨rfl, rfl⟩
          · exact h
          · have : n ≠ 0 := by simpa using h3
            omega
        have hR : Hid (holdsB ⟨lo, hi, st⟩ n = (n.tmod st == 0)) := by show _ = _; simp only [holdsB, h1, h2, h3]; simp
        go_enter Tryz.func177, Tryz.ntmps177
        go_wp2
        go_ret
        exact ⟨ret_bool hR.out.symm, rfl⟩
    · have hR : Hid (holdsB ⟨lo, hi, st⟩ n = false) := by show _ = _; simp [holdsB, h2]
      have h2 : hi < n := by omega
      go_enter Tryz.func177, Tryz.ntmps177
      go_wp2
      go_ret
      exact ⟨ret_bool hR.out.symm, rfl⟩
  · have hR : Hid (holdsB ⟨lo, hi, st⟩ n = false) := by show _ = _; simp [holdsB, h1]
    have h1 : n < lo := by omega
    go_enter Tryz.func177, Tryz.ntmps177
    go_wp2
    go_ret
    exact ⟨ret_bool hR.out.symm, rfl⟩

set_option maxRecDepth 4000 in
set_option maxHeartbeats 4000000 in
theorem numbers_c (a0 a1 a2 b0 b1 b2 c0 c1 c2 d0 d1 d2 e0 e1 e2 f0 f1 f2 g0 g1 g2 h0 h1' h2 k0 k1 k2 l0 l1 l2 : Int) (q1 q2 q3 q4 : Bool) (i : Ins)
    (ha : Hid (a2 ≠ 0 ∨ (a0 = 0 ∧ a1 = 0))) (hb : Hid (b2 ≠ 0 ∨ (b0 = 0 ∧ b1 = 0))) (hc : Hid (c2 ≠ 0 ∨ (c0 = 0 ∧ c1 = 0))) (hd : Hid (d2 ≠ 0 ∨ (d0 = 0 ∧ d1 = 0))) (he : Hid (e2 ≠ 0 ∨ (e0 = 0 ∧ e1 = 0))) (hf : Hid (f2 ≠ 0 ∨ (f0 = 0 ∧ f1 = 0))) (hg : Hid (g2 ≠ 0 ∨ (g0 = 0 ∧ g1 = 0))) (hh : Hid (h2 ≠ 0 ∨ (h0 = 0 ∧ h1' = 0))) (hk : Hid (k2 ≠ 0 ∨ (k0 = 0 ∧ k1 = 0))) (hl : Hid (l2 ≠ 0 ∨ (l0 = 0 ∧ l1 = 0))) (w : World) :
    Calls Tryz.prog 93 #[.agg #[vI a0, vI a1, vI a2, vI b0, vI b1, vI b2, vI c0, vI c1, vI c2, vI d0, vI d1, vI d2, vI e0, vI e1, vI e2, vI f0, vI f1, vI f2, vI g0, vI g1, vI g2, vI h0, vI h1', vI h2, vI k0, vI k1, vI k2, vI l0, vI l1, vI l2, .bool q1, .bool q2, .bool q3, .bool q4], i.val] w fun e w' =>
      e = .returned (.bool (holdsB ⟨a0, a1, a2⟩ i.rd && holdsB ⟨b0, b1, b2⟩ i.rn && holdsB ⟨c0, c1, c2⟩ i.rm && holdsB ⟨d0, d1, d2⟩ i.ra && holdsB ⟨e0, e1, e2⟩ i.sub && holdsB ⟨f0, f1, f2⟩ i.imm && holdsB ⟨g0, g1, g2⟩ i.imm2 && holdsB ⟨h0, h1', h2⟩ i.amount && holdsB ⟨k0, k1, k2⟩ i.shift && holdsB ⟨l0, l1, l2⟩ i.cond)) ∧ Below w.heap.size w w' := by
  obtain ⟨op, sub, rd, rn, rm, ra, imm, imm2, amount, shift, cond, sys, flags, minus, not, link⟩ := i
  go_enter Tryz.func93, Tryz.ntmps93
  go_wp2_with (go_at_call 177; refine (holds_c _ _ _ _ (by assumption) _).mono ?_; rintro e w' ⟨rfl, rfl⟩)
  all_goals (go_ret; refine ⟨ret_bool ?_, by repeat (first | exact Below.refl _ _ | apply below_more)⟩; simp [*])

set_option maxRecDepth 4000 in
set_option maxHeartbeats 4000000 in
theorem signs_c (a0 a1 a2 b0 b1 b2 c0 c1 c2 d0 d1 d2 e0 e1 e2 f0 f1 f2 g0 g1 g2 h0 h1' h2 k0 k1 k2 l0 l1 l2 : Int) (q1 q2 q3 q4 : Bool) (i : Ins) (w : World) :
    Calls Tryz.prog 94 #[.agg #[vI a0, vI a1, vI a2, vI b0, vI b1, vI b2, vI c0, vI c1, vI c2, vI d0, vI d1, vI d2, vI e0, vI e1, vI e2, vI f0, vI f1, vI f2, vI g0, vI g1, vI g2, vI h0, vI h1', vI h2, vI k0, vI k1, vI k2, vI l0, vI l1, vI l2, .bool q1, .bool q2, .bool q3, .bool q4], i.val] w fun e w' =>
      e = .returned (.bool ((q1 || !i.flags) && (q2 || !i.minus) && (q3 || !i.not) && (q4 || !i.link))) ∧ Below w.heap.size w w' := by
  obtain ⟨op, sub, rd, rn, rm, ra, imm, imm2, amount, shift, cond, sys, flags, minus, not, link⟩ := i
  go_enter Tryz.func94, Tryz.ntmps94
  go_wp2
  all_goals (go_ret; refine ⟨ret_bool ?_, by repeat (first | exact Below.refl _ _ | apply below_more)⟩; simp [*])
end Go.Proofs.YtbjcdpmhmebjnaaGreat
/- Whether the system register and the form of an instruction are right: contracts. -/
namespace Go.Proofs.YtbjcdpmhmebjnaaGreat
open Go.RowKit Go.Rel

def sysB (n : Int) : Bool := n == 17920 || n == 16897 || n == 16896 || n == 17040 || n == 17152 || n == 16904 || n == 16389 || n == 16914 || n == 23057 || n == 23056 || n == 24194 || n == 18016 || n == 18017 || n == 16944 || n == 18013 || n == 24322 || n == 24345 || n == 24346
def rightSysB (op sys : Int) : Bool := bif op != 31 && op != 32 then sys == 0 else sysB sys
def rightFormB (op sub amount imm imm2 : Int) : Bool := bif op == 4 then maskE amount imm imm2 == 0 else bif op == 5 then sub != 1 else true


set_option maxHeartbeats 4000000 in
theorem rightSys_c (i : Ins) (w : World) :
    Calls Tryz.prog 95 #[i.val] w fun e w' => e = .returned (.bool (rightSysB i.op i.sys)) ∧ Below w.heap.size w w' := by
  obtain ⟨op, sub, rd, rn, rm, ra, imm, imm2, amount, shift, cond, sys, flags, minus, not, link⟩ := i
  by_cases h31 : op = 31
  · subst h31
    have hR : Hid (rightSysB 31 sys = sysB sys) := rfl
    go_enter Tryz.func95, Tryz.ntmps95
    go_wp2
    all_goals (go_ret; refine ⟨ret_bool ?_, by repeat (first | exact Below.refl _ _ | apply below_more)⟩; rw [hR.out]; simp only [sysB, Bool.or_true, Bool.true_or, Bool.or_false, *])
  · by_cases h32 : op = 32
    · subst h32
      have hR : Hid (rightSysB 32 sys = sysB sys) := rfl
      go_enter Tryz.func95, Tryz.ntmps95
      go_wp2
      all_goals (go_ret; refine ⟨ret_bool ?_, by repeat (first | exact Below.refl _ _ | apply below_more)⟩; rw [hR.out]; simp only [sysB, Bool.or_true, Bool.true_or, Bool.or_false, *])
    · have g1 : (op != 31) = true := by simpa using h31
      have g2 : (op != 32) = true := by simpa using h32
      have hR : Hid (rightSysB op sys = (sys == 0)) := by show _ = _; unfold rightSysB; rw [g1, g2]; rfl
      go_enter Tryz.func95, Tryz.ntmps95
      go_wp2
      go_ret
      exact ⟨ret_bool hR.out.symm, below_alloc _ _⟩

set_option maxHeartbeats 4000000 in
theorem maskOf_c (i : Ins) (w : World) :
    Calls Tryz.prog 178 #[i.val] w fun e w' => e = .returned (.tuple #[.int .u64 (maskV i.amount i.imm i.imm2), .int .i64 (maskE i.amount i.imm i.imm2)]) ∧ Below w.heap.size w w' := by
  obtain ⟨op, sub, rd, rn, rm, ra, imm, imm2, amount, shift, cond, sys, flags, minus, not, link⟩ := i
  go_enter Tryz.func178, Tryz.ntmps178
  go_wp2_with (go_at_call 199; refine (mask_c _ _ _ _).mono ?_; rintro e w' ⟨rfl, m, rfl⟩)
  go_ret2
  exact ⟨rfl, below_draws (below_alloc _ _)⟩

set_option maxHeartbeats 4000000 in
theorem rightForm_c (i : Ins) (w : World) :
    Calls Tryz.prog 96 #[i.val] w fun e w' => e = .returned (.bool (rightFormB i.op i.sub i.amount i.imm i.imm2)) ∧ Below w.heap.size w w' := by
  obtain ⟨op, sub, rd, rn, rm, ra, imm, imm2, amount, shift, cond, sys, flags, minus, not, link⟩ := i
  go_enter Tryz.func96, Tryz.ntmps96
  go_wp2_with (go_at_call 178; refine (maskOf_c ⟨_, _, _, _, _, _, _, _, _, _, _, _, _, _, _, _⟩ _).mono ?_; rintro e w' ⟨rfl, hb⟩)
  · go_ret
    refine ⟨ret_bool ?_, below_then (below_alloc _ _) hb⟩
    simp only [rightFormB, cond_true, *]
  · go_ret
    refine ⟨ret_bool ?_, below_alloc _ _⟩
    simp only [rightFormB, cond_true, cond_false, *]
  · go_ret
    refine ⟨ret_bool ?_, below_alloc _ _⟩
    simp only [rightFormB, cond_false, *]
end Go.Proofs.YtbjcdpmhmebjnaaGreat
/- Whether an instruction is right, as Right of package insn tells it: a contract, for every instruction. -/
namespace Go.Proofs.YtbjcdpmhmebjnaaGreat
open Go.RowKit Go.Rel

def numbersB (i : Ins) : Bool := holdsB (regS (hasRd i.op)) i.rd && holdsB (regS (hasRn i.op)) i.rn && holdsB (regS (hasRm i.op)) i.rm && holdsB (regS (hasRa i.op)) i.ra && holdsB (subS i.op) i.sub && holdsB (immS i.op i.sub) i.imm && holdsB (imm2S i.op) i.imm2 && holdsB (amountS i.op) i.amount && holdsB (shiftS i.op) i.shift && holdsB (condS i.op) i.cond
def signsB (i : Ins) : Bool := (flagsR i.op i.sub || !i.flags) && (minusR i.op || !i.minus) && (notR i.op || !i.not) && (linkR i.op || !i.link)
def rightB (i : Ins) : Bool := decide (1 ≤ i.op) && decide (i.op ≤ 37) && (numbersB i && signsB i && rightSysB i.op i.sys && rightFormB i.op i.sub i.amount i.imm i.imm2)

def okS (s : Span) : Prop := s.st ≠ 0 ∨ (s.lo = 0 ∧ s.hi = 0)
theorem okS_up (n : Int) : okS (upToS n) := Or.inl (by simp [upToS])
theorem okS_zero : okS zeroS := Or.inr ⟨rfl, rfl⟩
theorem okS_reg (b : Bool) : okS (regS b) := by cases b <;> simp [okS, regS, h31, h1]
theorem okS_bif (b : Bool) {x y : Span} (hx : okS x) (hy : okS y) : okS (bif b then x else y) := by cases b <;> assumption
theorem okS_sub (op : Int) : okS (subS op) := okS_bif _ (okS_up _) (okS_bif _ (okS_up _) (okS_bif _ (Or.inl (by decide)) (okS_bif _ (okS_up _) okS_zero)))
theorem okS_shift (op : Int) : okS (shiftS op) := okS_bif _ (okS_up _) (okS_bif _ (okS_up _) okS_zero)
theorem okS_cond (op : Int) : okS (condS op) := okS_bif _ (okS_up _) okS_zero
theorem okS_imm2 (op : Int) : okS (imm2S op) := okS_bif _ (okS_up _) okS_zero
theorem okS_amount (op : Int) : okS (amountS op) := okS_bif _ (Or.inl (by decide)) (okS_bif _ (okS_up _) (okS_bif _ (okS_up _) (okS_bif _ (Or.inl (by decide)) (okS_bif _ (Or.inl (by decide)) okS_zero))))
theorem okS_imm (op sub : Int) : okS (immS op sub) := okS_bif _ (okS_up _) (okS_bif _ (okS_up _) (okS_bif _ (okS_up _) (okS_bif _ (okS_bif _ (Or.inl (by decide)) (Or.inl (by decide))) (okS_bif _ (Or.inl (by decide)) (okS_bif _ (Or.inl (by decide)) (okS_bif _ (Or.inl (by decide)) (okS_bif _ (Or.inl (by decide)) (okS_bif _ (Or.inl (by decide)) (okS_bif _ (okS_up _) (okS_bif _ (okS_up _) okS_zero))))))))))

theorem numbers_r (i : Ins) (w : World) :
    Calls Tryz.prog 93 #[.agg (cellsR i (immS i.op i.sub) (amountS i.op) (imm2S i.op)), i.val] w fun e w' => e = .returned (.bool (numbersB i)) ∧ Below w.heap.size w w' :=
  numbers_c 0 (h31 (hasRd i.op)) (h1 (hasRd i.op)) 0 (h31 (hasRn i.op)) (h1 (hasRn i.op)) 0 (h31 (hasRm i.op)) (h1 (hasRm i.op)) 0 (h31 (hasRa i.op)) (h1 (hasRa i.op)) (subS i.op).lo (subS i.op).hi (subS i.op).st (immS i.op i.sub).lo (immS i.op i.sub).hi (immS i.op i.sub).st (imm2S i.op).lo (imm2S i.op).hi (imm2S i.op).st (amountS i.op).lo (amountS i.op).hi (amountS i.op).st (shiftS i.op).lo (shiftS i.op).hi (shiftS i.op).st (condS i.op).lo (condS i.op).hi (condS i.op).st (flagsR i.op i.sub) (minusR i.op) (notR i.op) (linkR i.op) i
    (okS_reg _) (okS_reg _) (okS_reg _) (okS_reg _) (okS_sub _) (okS_imm _ _) (okS_imm2 _) (okS_amount _) (okS_shift _) (okS_cond _) w
theorem signs_r (i : Ins) (w : World) :
    Calls Tryz.prog 94 #[.agg (cellsR i (immS i.op i.sub) (amountS i.op) (imm2S i.op)), i.val] w fun e w' => e = .returned (.bool (signsB i)) ∧ Below w.heap.size w w' :=
  signs_c 0 (h31 (hasRd i.op)) (h1 (hasRd i.op)) 0 (h31 (hasRn i.op)) (h1 (hasRn i.op)) 0 (h31 (hasRm i.op)) (h1 (hasRm i.op)) 0 (h31 (hasRa i.op)) (h1 (hasRa i.op)) (subS i.op).lo (subS i.op).hi (subS i.op).st (immS i.op i.sub).lo (immS i.op i.sub).hi (immS i.op i.sub).st (imm2S i.op).lo (imm2S i.op).hi (imm2S i.op).st (amountS i.op).lo (amountS i.op).hi (amountS i.op).st (shiftS i.op).lo (shiftS i.op).hi (shiftS i.op).st (condS i.op).lo (condS i.op).hi (condS i.op).st (flagsR i.op i.sub) (minusR i.op) (notR i.op) (linkR i.op) i w

/-- A whole row read, by an operation whose guard says yes, or that has none. -/
theorem wpList_load_if {P : Program} {ops : Array Oper} {rest : List Oper} {o : Oper} {a : Act} {w : World} {Q : Exit → Act → World → Prop} (hw : Region.wanted o (yielded ops a.tmps) = true) (ty : TypeId) (x : Operand) (ho : o.op = .load ty x)
    (g : Nat) (hx : a.eval x = .pointer (some ⟨g, 0, none⟩)) (t : TypeId) (cs : Array Value) (fr : Nat × Nat) (d : TypeDesc) (hg : w.heap[g]? = some (.cells cs t fr))
    (hu : P.underlying ty = some d) (hd : (match d with | .struct _ | .array _ _ => true | _ => false) = true) (hi : (P.info? ty).map (·.size) = some cs.size)
    (h : wpList P ops Q rest (a.put o.dst (.agg cs)) w) : wpList P ops Q (o :: rest) a w :=
  BigFrame.wpList_want hw fun _ hK => wp_load_row ty x ho g hx t cs fr d hg hu hd hi (hK _ _ h)

/-- Two blocks of Right's own: the instruction's box, and further on the room. -/
structure Two (i : Ins) (w0 : World) (b : Nat) (R : Array Value) (w : World) : Prop where
  below : Below w0.heap.size w0 w
  box : w.heap[w0.heap.size]? = some (.cells i.cells 47)
  room : w.heap[b]? = some (.cells R 107)

theorem Two.grow {i : Ins} {w0 w w' : World} {b : Nat} {R : Array Value} (h : Two i w0 b R w) (hb : Below w.heap.size w w') : Two i w0 b R w' := by
  have h1 := (Array.getElem?_eq_some_iff.1 h.box).1
  have h2 := (Array.getElem?_eq_some_iff.1 h.room).1
  refine ⟨below_then h.below hb, ?_, ?_⟩
  · rw [hb.block _ h1]; exact h.box
  · rw [hb.block _ h2]; exact h.room

theorem two_start {i : Ins} {w w1 : World} (h : Below (w.alloc (.cells i.cells 47)).heap.size (w.alloc (.cells i.cells 47)) w1) (Z R : Array Value) : Two i w w1.heap.size R ((w1.alloc (.cells Z 107)).setRow w1.heap.size R) := by
  have e1 : (w.alloc (.cells i.cells 47)).heap.size = w.heap.size + 1 := Array.size_push ..
  have hs := h.size
  have hx : Below w.heap.size w (w1.alloc (.cells Z 107)) := below_then (below_alloc _ _) (below_then h (below_alloc _ _))
  refine ⟨hx.trans ⟨rfl, rfl, rfl, by rw [setRow_size]; exact Nat.le_refl _, fun k hk => setRow_other _ _ _ _ (by omega)⟩, ?_, setRow_heap _ _ _ _ _ _ (heap_alloc_new _ _)⟩
  rw [setRow_other _ _ _ _ (by omega), Below.heap_alloc _ _ _ (by omega), h.block _ (by omega), heap_alloc_new]

set_option maxRecDepth 8000 in
set_option maxHeartbeats 8000000 in
theorem right_c (i : Ins) (w : World) :
    Calls Tryz.prog 37 #[i.val] w fun e w' => e = .returned (.bool (rightB i)) ∧ Below w.heap.size w w' := by
  by_cases ha : 1 ≤ i.op
  · by_cases hb : i.op ≤ 37
    · have hR : Hid (rightB i = (numbersB i && signsB i && rightSysB i.op i.sys && rightFormB i.op i.sub i.amount i.imm i.imm2)) := by show _ = _; unfold rightB; simp [ha, hb]
      go_enter Tryz.func37, Tryz.ntmps37
      go_upto_region 3 with fail
      iterate 6 go_step
      refine (roomOf_c i _).mono ?_
      rintro e w1 ⟨rfl, hb1⟩
      dsimp only
      iterate 4 go_step
      refine wpList_store_row rfl 107 _ _ rfl w1.heap.size (cellsR i (immS i.op i.sub) (amountS i.op) (imm2S i.op)) rfl rfl 107 _ (heap_alloc_new _ _) (by kernel_rfl) rfl (cells_one _ _ _ _) ?_
      generalize hw2 : (w1.alloc _).setRow _ _ = w2
      have H2 : Two i w w1.heap.size (cellsR i (immS i.op i.sub) (amountS i.op) (imm2S i.op)) w2 := by rw [← hw2]; exact two_start hb1 _ _
      clear hw2 hb1
      generalize w1.heap.size = b at *
      simp only [Act.put]
      cases hN : numbersB i with
      | false =>
        repeat' (first | with_reducible refine then_exit ?_ | with_reducible refine then_normal ?_ | with_reducible refine inBlock_eq ?_ | with_reducible refine inBlock_ne rfl ?_ | with_reducible refine inBlock_normal ?_ | (refine wpList_load_if rfl 107 _ rfl b rfl 107 _ (0, 0) _ H2.room Tryz.underlying107 rfl (by kernel_rfl) ?_; simp only [Act.put, List.setIfInBounds_toArray, List.set_cons_succ, List.set_cons_zero]) | (refine wpList_load_if rfl 47 _ rfl w.heap.size rfl 47 _ (0, 0) _ H2.box Tryz.underlying47 rfl (by kernel_rfl) ?_; simp only [Act.put, List.setIfInBounds_toArray, List.set_cons_succ, List.set_cons_zero]) | (go_at_call 93; refine (numbers_r i _).mono ?_; rw [hN]; rintro e w3 ⟨rfl, hb3⟩; replace H2 := H2.grow hb3; clear hb3; dsimp only) | (go_at_call 94; refine (signs_r i _).mono ?_; rintro e w3 ⟨rfl, hb3⟩; replace H2 := H2.grow hb3; clear hb3; dsimp only) | (go_at_call 95; refine (rightSys_c i _).mono ?_; rintro e w3 ⟨rfl, hb3⟩; replace H2 := H2.grow hb3; clear hb3; dsimp only) | (go_at_call 96; refine (rightForm_c i _).mono ?_; rintro e w3 ⟨rfl, hb3⟩; replace H2 := H2.grow hb3; clear hb3; dsimp only) | go_step)
        go_ret
        exact ⟨ret_bool (by rw [hR.out, hN]; rfl), H2.below⟩
      | true =>
        cases hS : signsB i with
        | false =>
          repeat' (first | with_reducible refine then_exit ?_ | with_reducible refine then_normal ?_ | with_reducible refine inBlock_eq ?_ | with_reducible refine inBlock_ne rfl ?_ | with_reducible refine inBlock_normal ?_ | (refine wpList_load_if rfl 107 _ rfl b rfl 107 _ (0, 0) _ H2.room Tryz.underlying107 rfl (by kernel_rfl) ?_; simp only [Act.put, List.setIfInBounds_toArray, List.set_cons_succ, List.set_cons_zero]) | (refine wpList_load_if rfl 47 _ rfl w.heap.size rfl 47 _ (0, 0) _ H2.box Tryz.underlying47 rfl (by kernel_rfl) ?_; simp only [Act.put, List.setIfInBounds_toArray, List.set_cons_succ, List.set_cons_zero]) | (go_at_call 93; refine (numbers_r i _).mono ?_; rw [hN]; rintro e w3 ⟨rfl, hb3⟩; replace H2 := H2.grow hb3; clear hb3; dsimp only) | (go_at_call 94; refine (signs_r i _).mono ?_; rw [hS]; rintro e w3 ⟨rfl, hb3⟩; replace H2 := H2.grow hb3; clear hb3; dsimp only) | (go_at_call 95; refine (rightSys_c i _).mono ?_; rintro e w3 ⟨rfl, hb3⟩; replace H2 := H2.grow hb3; clear hb3; dsimp only) | (go_at_call 96; refine (rightForm_c i _).mono ?_; rintro e w3 ⟨rfl, hb3⟩; replace H2 := H2.grow hb3; clear hb3; dsimp only) | go_step)
          go_ret
          exact ⟨ret_bool (by rw [hR.out, hN, hS]; rfl), H2.below⟩
        | true =>
          cases hY : rightSysB i.op i.sys with
          | false =>
            repeat' (first | with_reducible refine then_exit ?_ | with_reducible refine then_normal ?_ | with_reducible refine inBlock_eq ?_ | with_reducible refine inBlock_ne rfl ?_ | with_reducible refine inBlock_normal ?_ | (refine wpList_load_if rfl 107 _ rfl b rfl 107 _ (0, 0) _ H2.room Tryz.underlying107 rfl (by kernel_rfl) ?_; simp only [Act.put, List.setIfInBounds_toArray, List.set_cons_succ, List.set_cons_zero]) | (refine wpList_load_if rfl 47 _ rfl w.heap.size rfl 47 _ (0, 0) _ H2.box Tryz.underlying47 rfl (by kernel_rfl) ?_; simp only [Act.put, List.setIfInBounds_toArray, List.set_cons_succ, List.set_cons_zero]) | (go_at_call 93; refine (numbers_r i _).mono ?_; rw [hN]; rintro e w3 ⟨rfl, hb3⟩; replace H2 := H2.grow hb3; clear hb3; dsimp only) | (go_at_call 94; refine (signs_r i _).mono ?_; rw [hS]; rintro e w3 ⟨rfl, hb3⟩; replace H2 := H2.grow hb3; clear hb3; dsimp only) | (go_at_call 95; refine (rightSys_c i _).mono ?_; rw [hY]; rintro e w3 ⟨rfl, hb3⟩; replace H2 := H2.grow hb3; clear hb3; dsimp only) | (go_at_call 96; refine (rightForm_c i _).mono ?_; rintro e w3 ⟨rfl, hb3⟩; replace H2 := H2.grow hb3; clear hb3; dsimp only) | go_step)
            go_ret
            exact ⟨ret_bool (by rw [hR.out, hN, hS, hY]; rfl), H2.below⟩
          | true =>
            repeat' (first | with_reducible refine then_exit ?_ | with_reducible refine then_normal ?_ | with_reducible refine inBlock_eq ?_ | with_reducible refine inBlock_ne rfl ?_ | with_reducible refine inBlock_normal ?_ | (refine wpList_load_if rfl 107 _ rfl b rfl 107 _ (0, 0) _ H2.room Tryz.underlying107 rfl (by kernel_rfl) ?_; simp only [Act.put, List.setIfInBounds_toArray, List.set_cons_succ, List.set_cons_zero]) | (refine wpList_load_if rfl 47 _ rfl w.heap.size rfl 47 _ (0, 0) _ H2.box Tryz.underlying47 rfl (by kernel_rfl) ?_; simp only [Act.put, List.setIfInBounds_toArray, List.set_cons_succ, List.set_cons_zero]) | (go_at_call 93; refine (numbers_r i _).mono ?_; rw [hN]; rintro e w3 ⟨rfl, hb3⟩; replace H2 := H2.grow hb3; clear hb3; dsimp only) | (go_at_call 94; refine (signs_r i _).mono ?_; rw [hS]; rintro e w3 ⟨rfl, hb3⟩; replace H2 := H2.grow hb3; clear hb3; dsimp only) | (go_at_call 95; refine (rightSys_c i _).mono ?_; rw [hY]; rintro e w3 ⟨rfl, hb3⟩; replace H2 := H2.grow hb3; clear hb3; dsimp only) | (go_at_call 96; refine (rightForm_c i _).mono ?_; rintro e w3 ⟨rfl, hb3⟩; replace H2 := H2.grow hb3; clear hb3; dsimp only) | go_step)
            go_ret
            exact ⟨ret_bool (by rw [hR.out, hN, hS, hY]; rfl), H2.below⟩
    · have hR : Hid (rightB i = false) := by show _ = _; unfold rightB; simp [hb]
      have hb : 37 < i.op := by omega
      go_enter Tryz.func37, Tryz.ntmps37
      go_wp2
      go_ret
      exact ⟨ret_bool hR.out.symm, below_alloc _ _⟩
  · have hR : Hid (rightB i = false) := by show _ = _; unfold rightB; simp [ha]
    have ha : i.op < 1 := by omega
    go_enter Tryz.func37, Tryz.ntmps37
    go_wp2
    go_ret
    exact ⟨ret_bool hR.out.symm, below_alloc _ _⟩
end Go.Proofs.YtbjcdpmhmebjnaaGreat
/- The sets of registers that package insn keeps by bits: what its small functions give back: contracts. -/
namespace Go.Proofs.YtbjcdpmhmebjnaaGreat
open Go.RowKit Go.Rel

def zeroF (n : Int) : Int := if n = 31 then 0 else 2 ^ n.toNat
def stackF (n : Int) : Int := 2 ^ n.toNat
def accB (op : Int) : Bool := decide (17 ≤ op) && decide (op ≤ 24)
def spD (i : Ins) : Bool := (i.op == 1 || i.op == 4) && !i.flags
def spN (i : Ins) : Bool := i.op == 1 || accB i.op

theorem zero_fin : ∀ k : Fin 32, bits .andNot .u32 (IntKind.u32.wrap (2 ^ (k.val : Int).toNat)) 2147483648 = zeroF (k.val : Int) := by decide +kernel
theorem stack_fin : ∀ k : Fin 32, IntKind.u32.wrap (2 ^ (k.val : Int).toNat) = stackF (k.val : Int) := by decide +kernel
theorem zero_walk {n : Int} (h0 : 0 ≤ n) (h1 : n ≤ 31) : bits .andNot .u32 (IntKind.u32.wrap (2 ^ n.toNat)) 2147483648 = zeroF n := by
  have := zero_fin ⟨n.toNat, by omega⟩
  rwa [show ((⟨n.toNat, by omega⟩ : Fin 32).val : Int) = n by simp; omega] at this
theorem stack_walk {n : Int} (h0 : 0 ≤ n) (h1 : n ≤ 31) : IntKind.u32.wrap (2 ^ n.toNat) = stackF n := by
  have := stack_fin ⟨n.toNat, by omega⟩
  rwa [show ((⟨n.toNat, by omega⟩ : Fin 32).val : Int) = n by simp; omega] at this

set_option maxHeartbeats 400000 in
theorem zeroOr_c (n : Int) (h0 : 0 ≤ n) (h1 : n ≤ 31) (w : World) :
    Calls Tryz.prog 98 #[vI n] w fun e w' => e = .returned (.int .u32 (zeroF n)) ∧ w' = w := by
  have hZ : Hid (bits .andNot .u32 (IntKind.u32.wrap (2 ^ n.toNat)) 2147483648 = zeroF n) := zero_walk h0 h1
  go_enter Tryz.func98, Tryz.ntmps98
  go_wp2
  go_ret
  exact ⟨ret_int hZ.out, rfl⟩

set_option maxHeartbeats 400000 in
theorem stackOr_c (n : Int) (h0 : 0 ≤ n) (h1 : n ≤ 31) (w : World) :
    Calls Tryz.prog 180 #[vI n] w fun e w' => e = .returned (.int .u32 (stackF n)) ∧ w' = w := by
  have hZ : Hid (IntKind.u32.wrap (2 ^ n.toNat) = stackF n) := stack_walk h0 h1
  go_enter Tryz.func180, Tryz.ntmps180
  go_wp2
  go_ret
  exact ⟨ret_int hZ.out, rfl⟩

set_option maxHeartbeats 400000 in
theorem accesses_c (op : Int) (w : World) : Calls Tryz.prog 218 #[vI op] w fun e w' => e = .returned (.bool (accB op)) ∧ w' = w := by
  by_cases h1 : 17 ≤ op
  · by_cases h2 : op ≤ 24
    · have hR : Hid (accB op = true) := by show _ = _; simp [accB, h1, h2]
      go_enter Tryz.func218, Tryz.ntmps218
      go_wp2
      go_ret
      exact ⟨ret_bool (by rw [hR.out]), rfl⟩
    · have hR : Hid (accB op = false) := by show _ = _; simp [accB, h2]
      have h2 : 24 < op := by omega
      go_enter Tryz.func218, Tryz.ntmps218
      go_wp2
      go_ret
      exact ⟨ret_bool (by rw [hR.out]), rfl⟩
  · have hR : Hid (accB op = false) := by show _ = _; simp [accB, h1]
    have h1 : op < 17 := by omega
    go_enter Tryz.func218, Tryz.ntmps218
    go_wp2
    go_ret
    exact ⟨ret_bool (by rw [hR.out]), rfl⟩

set_option maxHeartbeats 400000 in
theorem stackRd_c (i : Ins) (w : World) : Calls Tryz.prog 179 #[i.val] w fun e w' => e = .returned (.bool (spD i)) ∧ w' = w.alloc (.cells i.cells 47) := by
  obtain ⟨op, sub, rd, rn, rm, ra, imm, imm2, amount, shift, cond, sys, flags, minus, not, link⟩ := i
  cases h1 : (op == 1) <;> cases h4 : (op == 4) <;> cases flags
  all_goals
    go_enter Tryz.func179, Tryz.ntmps179
    go_wp2
    go_ret
    exact ⟨ret_bool (by simp only [spD, h1, h4]; rfl), rfl⟩

set_option maxHeartbeats 400000 in
theorem stackRn_c (i : Ins) (w : World) : Calls Tryz.prog 181 #[i.val] w fun e w' => e = .returned (.bool (spN i)) ∧ w' = w.alloc (.cells i.cells 47) := by
  obtain ⟨op, sub, rd, rn, rm, ra, imm, imm2, amount, shift, cond, sys, flags, minus, not, link⟩ := i
  cases h1 : (op == 1)
  all_goals
    go_enter Tryz.func181, Tryz.ntmps181
    go_wp2_with (go_at_call 218; refine (accesses_c _ _).mono ?_; rintro e w' ⟨rfl, rfl⟩)
    go_ret
    exact ⟨ret_bool (by simp only [spN, h1]; rfl), rfl⟩
end Go.Proofs.YtbjcdpmhmebjnaaGreat
/- Which registers an instruction reads, reckons its address of and writes, as sets by bits: contracts, for every instruction whose registers are 0 to 31. -/
namespace Go.Proofs.YtbjcdpmhmebjnaaGreat
open Go.RowKit Go.Rel

def setDV (i : Ins) : Int := bif spD i then stackF i.rd else zeroF i.rd
def setNV (i : Ins) : Int := bif spN i then stackF i.rn else zeroF i.rn
abbrev orS (a b : Int) : Int := bits .or .u32 a b
def readsV (i : Ins) : Int :=
  bif i.op == 8 then orS (orS (orS 0 (zeroF i.ra)) (zeroF i.rm)) (setNV i)
  else bif i.op == 2 || i.op == 3 || i.op == 7 || i.op == 9 || i.op == 10 || i.op == 19 then orS (orS 0 (zeroF i.rm)) (setNV i)
  else bif i.op == 1 || i.op == 4 || i.op == 6 || i.op == 16 || i.op == 17 || i.op == 21 || i.op == 23 then orS 0 (setNV i)
  else bif i.op == 20 then orS (orS (orS 0 (zeroF i.rm)) (setNV i)) (zeroF i.rd)
  else bif i.op == 18 || i.op == 22 || i.op == 24 then orS (orS 0 (setNV i)) (zeroF i.rd)
  else bif i.op == 14 || i.op == 15 || i.op == 28 || i.op == 30 || i.op == 32 then orS 0 (zeroF i.rd)
  else bif i.op == 5 then (bif i.sub == 3 then orS 0 (zeroF i.rd) else 0) else 0
def addressV (i : Ins) : Int :=
  bif i.op == 19 || i.op == 20 then orS (orS 0 (zeroF i.rm)) (setNV i)
  else bif i.op == 17 || i.op == 18 || i.op == 21 || i.op == 22 || i.op == 23 || i.op == 24 then orS 0 (setNV i)
  else bif i.op == 28 || i.op == 30 then orS 0 (zeroF i.rd) else 0
def writesV (i : Ins) : Int :=
  bif i.op == 17 || i.op == 19 || i.op == 21 || i.op == 23 || i.op == 31 then setDV i
  else bif i.op == 24 then zeroF i.rm
  else bif i.op == 12 then (bif i.link then zeroF 30 else 0)
  else bif i.op == 16 then (bif i.sub == 1 then zeroF 30 else 0)
  else bif decide (i.op ≤ 11) then setDV i else 0

structure InR (i : Ins) : Prop where
  d0 : 0 ≤ i.rd
  d1 : i.rd ≤ 31
  n0 : 0 ≤ i.rn
  n1 : i.rn ≤ 31
  m0 : 0 ≤ i.rm
  m1 : i.rm ≤ 31
  a0 : 0 ≤ i.ra
  a1 : i.ra ≤ 31

set_option maxHeartbeats 400000 in
theorem setRd_c (i : Ins) (hr : InR i) (w : World) : Calls Tryz.prog 97 #[i.val] w fun e w' => e = .returned (.int .u32 (setDV i)) ∧ w' = (w.alloc (.cells i.cells 47)).alloc (.cells i.cells 47) := by
  cases hS : spD i
  all_goals
    go_enter Tryz.func97, Tryz.ntmps97
    go_wp2_with (first | (go_at_call 179; refine (stackRd_c i _).mono ?_; rw [hS]; rintro e w' ⟨rfl, rfl⟩) | (go_at_call 180; refine (stackOr_c _ hr.d0 hr.d1 _).mono ?_; rintro e w' ⟨rfl, rfl⟩) | (go_at_call 98; refine (zeroOr_c _ hr.d0 hr.d1 _).mono ?_; rintro e w' ⟨rfl, rfl⟩))
    go_ret
    exact ⟨ret_int (by simp only [setDV, hS]; rfl), rfl⟩

set_option maxHeartbeats 400000 in
theorem setRn_c (i : Ins) (hr : InR i) (w : World) : Calls Tryz.prog 99 #[i.val] w fun e w' => e = .returned (.int .u32 (setNV i)) ∧ w' = (w.alloc (.cells i.cells 47)).alloc (.cells i.cells 47) := by
  cases hS : spN i
  all_goals
    go_enter Tryz.func99, Tryz.ntmps99
    go_wp2_with (first | (go_at_call 181; refine (stackRn_c i _).mono ?_; rw [hS]; rintro e w' ⟨rfl, rfl⟩) | (go_at_call 180; refine (stackOr_c _ hr.n0 hr.n1 _).mono ?_; rintro e w' ⟨rfl, rfl⟩) | (go_at_call 98; refine (zeroOr_c _ hr.n0 hr.n1 _).mono ?_; rintro e w' ⟨rfl, rfl⟩))
    go_ret
    exact ⟨ret_int (by simp only [setNV, hS]; rfl), rfl⟩

set_option maxRecDepth 4000 in
set_option maxHeartbeats 8000000 in
theorem reads_c (i : Ins) (hr : InR i) (w : World) : Calls Tryz.prog 40 #[i.val] w fun e w' => e = .returned (.int .u32 (readsV i)) ∧ Below w.heap.size w w' := by
  go_enter Tryz.func40, Tryz.ntmps40
  repeat' (first | with_reducible refine then_exit ?_ | with_reducible refine then_normal ?_ | with_reducible refine inBlock_eq ?_ | with_reducible refine inBlock_ne rfl ?_ | with_reducible refine inBlock_normal ?_ | (go_at_call 99; refine (setRn_c i hr _).mono ?_; rintro e w' ⟨rfl, rfl⟩; dsimp only) | (go_at_call 98; refine (zeroOr_c _ (by first | exact hr.m0 | exact hr.d0 | exact hr.a0 | decide) (by first | exact hr.m1 | exact hr.d1 | exact hr.a1 | decide) _).mono ?_; rintro e w' ⟨rfl, rfl⟩; dsimp only) | go_step)
  all_goals (go_ret; refine ⟨ret_int ?_, by repeat (first | exact Below.refl _ _ | apply below_more)⟩; simp only [readsV, cond_true, cond_false, Bool.or_true, Bool.true_or, Bool.or_false, *])

end Go.Proofs.YtbjcdpmhmebjnaaGreat
/- What is listed of a set of registers: each of its bits, rising, once: a contract. -/
namespace Go.Proofs.YtbjcdpmhmebjnaaGreat
open Go.RowKit Go.Rel

def listL (s : Nat) (k : Nat) : List Nat := (List.range k).filter fun j => s.testBit j
theorem listL_succ (s k : Nat) : listL s (k + 1) = if s.testBit k then listL s k ++ [k] else listL s k := by
  unfold listL
  rw [List.range_succ, List.filter_append]
  cases h : s.testBit k <;> simp [h]
def listV (s k : Nat) : List Value := (listL s k).map fun (j : Nat) => vI (j : Int)
theorem listV_yes {s k : Nat} (h : s.testBit k = true) : listV s (k + 1) = listV s k ++ [vI (k : Int)] := by unfold listV; rw [listL_succ, if_pos h, List.map_append]; rfl
theorem listV_no {s k : Nat} (h : s.testBit k = false) : listV s (k + 1) = listV s k := by unfold listV; rw [listL_succ, if_neg (by simp [h])]

theorem listL_le (s k : Nat) : (listL s k).length ≤ k := by
  have := List.length_filter_le (fun j => s.testBit j) (List.range k)
  simpa [listL] using this
theorem bit32 (s k : Nat) (hs : s < 4294967296) : (bits .and .u32 ((s : Int) / 2 ^ k) 1 == 1) = s.testBit k := by
  have h1 : ((s : Int) / 2 ^ k) = ((s / 2 ^ k : Nat) : Int) := by simp
  have h2 : s / 2 ^ k < 4294967296 := Nat.lt_of_le_of_lt (Nat.div_le_self _ _) hs
  rw [h1, show (1 : Int) = ((1 : Nat) : Int) from rfl, and32 _ _ h2 (by decide), Nat.testBit_eq_decide_div_mod_eq, and_one]
  by_cases h : s / 2 ^ k % 2 = 1
  · simp [h]
  · have : s / 2 ^ k % 2 = 0 := by omega
    simp [this]

theorem int_info : ∃ i0, Tryz.prog.info? 3 = some i0 ∧ i0.zero = some (.int .i64 0) ∧ i0.size = 1 ∧ i0.bytes = 8 := by
  have h : (Tryz.prog.info? 3).map (fun i => (i.zero, i.size, i.bytes)) = some (some (.int .i64 0), 1, 8) := by kernel_rfl
  cases hq : Tryz.prog.info? 3 with
  | none => rw [hq] at h; cases h
  | some i =>
    rw [hq] at h
    simp only [Option.map_some, Option.some.injEq, Prod.mk.injEq] at h
    exact ⟨i, rfl, h.1, h.2.1, h.2.2⟩

set_option maxRecDepth 4000 in
set_option maxHeartbeats 2000000 in
theorem list_c (s : Nat) (hs : s < 4294967296) (w : World) :
    Calls Tryz.prog 39 #[.int .u32 (s : Int)] w fun e w' => ∃ v, e = .returned v ∧ w'.ownsRow w.heap.size 3 1 v (listL s 32).length (listV s 32) ∧ Below w.heap.size w w' := by
  have hB : Hid (∀ k : Nat, (bits .and .u32 ((s : Int) / 2 ^ k) 1 == 1) = s.testBit k) := fun k => bit32 s k hs
  clear hs
  obtain ⟨i0, hi, hz0, hz1, hz2⟩ : ∃ i0, Tryz.prog.info? 3 = some i0 ∧ i0.zero = some (.int .i64 0) ∧ i0.size = 1 ∧ i0.bytes = 8 := int_info
  go_enter Tryz.func39, Tryz.ntmps39
  go_wp2
  go_loopw [3, 5] (fun v i wr => ∃ k : Nat, k ≤ 32 ∧ i = .int .i64 k ∧ wr.ownsRow w.heap.size 3 1 v (listL s k).length (listV s k) ∧ Below w.heap.size w wr) (fun _ i _ => 32 - (intOf i).toNat)
  case atStart => exact ⟨0, Nat.zero_le _, rfl, World.ownsRow_nil _ _ _ _, Below.refl _ _⟩
  case round =>
    obtain ⟨k, hk, rfl, hown, hnx⟩ := hrel
    by_cases hlt : (k : Int) < 32
    · have hb := hB.out k
      have hle := listL_le s k
      cases ht : s.testBit k
      · rw [ht] at hb
        have HT : Hid (s.testBit k = false) := ht
        clear ht
        go_wp2
        refine ⟨⟨k + 1, by omega, by go_num, ?_, hnx⟩, by simp [intOf]; omega⟩
        rw [listV_no HT.out, listL_succ, if_neg (by rw [HT.out]; decide)]
        exact hown
      · rw [ht] at hb
        have HT : Hid (s.testBit k = true) := ht
        clear ht
        go_wp2_with (at_builtin; refine wpList_append_own _ rfl _ _ 49 rfl w.heap.size 3 i0 (.int .i64 0) 1 8 Tryz.underlying49 hi hz0 hz1 hz2 rfl (by decide) _ _ _ rfl (hown.alloc _) ⟨wr.heap.size, 0, none⟩ 1 1 [.int .i64 k] rfl rfl ?c1 ?c2 ?c3 ?c4 ?c5 ?_)
        case c1 =>
          intro j u hj
          match j, hj with
          | 0, hj => simp at hj; subst hj; simp [Addr.add]
        case c2 => intro u hu; simp at hu; subst hu; rfl
        case c3 => unfold maxLen; omega
        case c4 => omega
        case c5 => have := hnx.size; simp; omega
        · intro v' w1 hown' hgrow _
          have HG : Below w.heap.size w w1 := (hnx.alloc hnx.size _).grown hgrow (Nat.le_trans hnx.size (by simp)) (fun b hb => (World.ownsRow.lt hown b hb).1)
          clear hgrow
          go_wp2
          refine ⟨⟨k + 1, by omega, by go_num, ?_, HG⟩, by simp [intOf]; omega⟩
          rw [listV_yes HT.out, listL_succ, if_pos HT.out, List.length_append]
          exact hown'
    · obtain rfl : k = 32 := by omega
      go_wp2
      go_ret
      exact ⟨_, rfl, hown, hnx⟩
end Go.Proofs.YtbjcdpmhmebjnaaGreat
/- Which registers an instruction reads and reckons its address of, as the lists that package insn gives back: contracts, for every instruction. -/
namespace Go.Proofs.YtbjcdpmhmebjnaaGreat
open Go.RowKit Go.Rel

def R32 (x : Int) : Prop := 0 ≤ x ∧ x < 4294967296
theorem r32_or {a b : Int} (ha : R32 a) (hb : R32 b) : R32 (orS a b) := by
  obtain ⟨a0, a1⟩ := ha
  obtain ⟨b0, b1⟩ := hb
  obtain ⟨x, rfl⟩ := Int.eq_ofNat_of_zero_le a0
  obtain ⟨y, rfl⟩ := Int.eq_ofNat_of_zero_le b0
  have hx : x < 2 ^ 32 := by omega
  have hy : y < 2 ^ 32 := by omega
  show 0 ≤ bits .or .u32 (x : Int) (y : Int) ∧ bits .or .u32 (x : Int) (y : Int) < 4294967296
  rw [or32 x y (by omega) (by omega)]
  have := Nat.or_lt_two_pow hx hy
  omega
theorem r32_zero : R32 0 := ⟨by decide, by decide⟩
theorem r32_zf_fin : ∀ k : Fin 32, 0 ≤ zeroF (k.val : Int) ∧ zeroF (k.val : Int) < 4294967296 := by decide +kernel
theorem r32_sf_fin : ∀ k : Fin 32, 0 ≤ stackF (k.val : Int) ∧ stackF (k.val : Int) < 4294967296 := by decide +kernel
theorem r32_zf {n : Int} (h0 : 0 ≤ n) (h1 : n ≤ 31) : R32 (zeroF n) := by
  have := r32_zf_fin ⟨n.toNat, by omega⟩
  rwa [show ((⟨n.toNat, by omega⟩ : Fin 32).val : Int) = n by simp; omega] at this
theorem r32_sf {n : Int} (h0 : 0 ≤ n) (h1 : n ≤ 31) : R32 (stackF n) := by
  have := r32_sf_fin ⟨n.toNat, by omega⟩
  rwa [show ((⟨n.toNat, by omega⟩ : Fin 32).val : Int) = n by simp; omega] at this
theorem r32_bif {b : Bool} {x y : Int} (hx : R32 x) (hy : R32 y) : R32 (bif b then x else y) := by cases b <;> assumption
theorem r32_n {i : Ins} (h : InR i) : R32 (setNV i) := r32_bif (r32_sf h.n0 h.n1) (r32_zf h.n0 h.n1)
theorem r32_d {i : Ins} (h : InR i) : R32 (setDV i) := r32_bif (r32_sf h.d0 h.d1) (r32_zf h.d0 h.d1)
theorem r32_reads {i : Ins} (h : InR i) : R32 (readsV i) :=
  r32_bif (r32_or (r32_or (r32_or r32_zero (r32_zf h.a0 h.a1)) (r32_zf h.m0 h.m1)) (r32_n h)) (r32_bif (r32_or (r32_or r32_zero (r32_zf h.m0 h.m1)) (r32_n h)) (r32_bif (r32_or r32_zero (r32_n h)) (r32_bif (r32_or (r32_or (r32_or r32_zero (r32_zf h.m0 h.m1)) (r32_n h)) (r32_zf h.d0 h.d1)) (r32_bif (r32_or (r32_or r32_zero (r32_n h)) (r32_zf h.d0 h.d1)) (r32_bif (r32_or r32_zero (r32_zf h.d0 h.d1)) (r32_bif (r32_bif (r32_or r32_zero (r32_zf h.d0 h.d1)) r32_zero) r32_zero))))))
theorem r32_address {i : Ins} (h : InR i) : R32 (addressV i) :=
  r32_bif (r32_or (r32_or r32_zero (r32_zf h.m0 h.m1)) (r32_n h)) (r32_bif (r32_or r32_zero (r32_n h)) (r32_bif (r32_or r32_zero (r32_zf h.d0 h.d1)) r32_zero))
theorem r32_writes {i : Ins} (h : InR i) : R32 (writesV i) :=
  r32_bif (r32_d h) (r32_bif (r32_zf h.m0 h.m1) (r32_bif (r32_bif (r32_zf (by decide) (by decide)) r32_zero) (r32_bif (r32_bif (r32_zf (by decide) (by decide)) r32_zero) (r32_bif (r32_d h) r32_zero))))

theorem in_reg {b : Bool} {x : Int} (h : holdsB (regS b) x = true) : 0 ≤ x ∧ x ≤ 31 := by
  simp only [holdsB, regS, Bool.and_eq_true] at h
  have : h31 b ≤ 31 := by cases b <;> decide
  exact ⟨of_decide_eq_true h.1.1, Int.le_trans (of_decide_eq_true h.1.2) this⟩
theorem inR_of {i : Ins} (h : rightB i = true) : InR i := by
  simp only [rightB, numbersB, Bool.and_eq_true] at h
  obtain ⟨-, ⟨⟨⟨⟨⟨⟨⟨⟨⟨⟨⟨⟨hd, hn⟩, hm⟩, ha⟩, -⟩, -⟩, -⟩, -⟩, -⟩, -⟩, -⟩, -⟩, -⟩⟩ := h
  exact ⟨(in_reg hd).1, (in_reg hd).2, (in_reg hn).1, (in_reg hn).2, (in_reg hm).1, (in_reg hm).2, (in_reg ha).1, (in_reg ha).2⟩

theorem own_mono {w : World} {b base : Nat} {e : TypeId} {size n : Nat} {v : Value} {xs : List Value} (h : w.ownsRow base e size v n xs) (hb : b ≤ base) : w.ownsRow b e size v n xs := by
  obtain ⟨h1, h2⟩ := h
  refine ⟨h1, ?_⟩
  rcases h2 with h2 | ⟨g, cap, cur, hv, hg, r⟩
  · exact Or.inl h2
  · exact Or.inr ⟨g, cap, cur, hv, Nat.le_trans hb hg, r⟩

/-- One block of the call's own: the instruction's box. -/
structure One (i : Ins) (w0 w : World) : Prop where
  below : Below w0.heap.size w0 w
  box : w.heap[w0.heap.size]? = some (.cells i.cells 47)
theorem One.grow {i : Ins} {w0 w w' : World} (h : One i w0 w) (hb : Below w.heap.size w w') : One i w0 w' := by
  have h1 := (Array.getElem?_eq_some_iff.1 h.box).1
  exact ⟨below_then h.below hb, by rw [hb.block _ h1]; exact h.box⟩
theorem one_start (i : Ins) (w : World) : One i w (w.alloc (.cells i.cells 47)) := ⟨below_alloc _ _, heap_alloc_new _ _⟩

def setOf (i : Ins) (v : Int) : Nat := bif rightB i then v.toNat else 0

set_option maxRecDepth 4000 in
set_option maxHeartbeats 2000000 in
theorem Reads_c (i : Ins) (w : World) :
    Calls Tryz.prog 19 #[i.val] w fun e w' => ∃ v, e = .returned v ∧ w'.ownsRow w.heap.size 3 1 v (listL (setOf i (readsV i)) 32).length (listV (setOf i (readsV i)) 32) ∧ Below w.heap.size w w' := by
  have H1 := one_start i w
  cases hR : rightB i
  · have hS : Hid (setOf i (readsV i) = 0) := by show _ = _; simp only [setOf, hR, cond_false]
    go_enter Tryz.func19, Tryz.ntmps19
    go_wp2_with (go_at_call 37; refine (right_c i _).mono ?_; rw [hR]; rintro e w1 ⟨rfl, hb1⟩; replace H1 := H1.grow hb1; clear hb1)
    go_ret
    refine ⟨_, rfl, ?_, H1.below⟩
    rw [hS.out]
    exact World.ownsRow_nil _ _ _ _
  · have hr := inR_of hR
    have hv := r32_reads hr
    have hN : Hid (readsV i = ((setOf i (readsV i) : Nat) : Int)) := by show _ = _; simp only [setOf, hR, cond_true]; have := hv.1; omega
    have hN2 : Hid (setOf i (readsV i) < 4294967296) := by show _ < _; simp only [setOf, hR, cond_true]; have := hv.1; have := hv.2; omega
    generalize setOf i (readsV i) = S at *
    clear hv
    go_enter Tryz.func19, Tryz.ntmps19
    go_wp2_with (go_at_call 37; refine (right_c i _).mono ?_; rw [hR]; rintro e w1 ⟨rfl, hb1⟩; replace H1 := H1.grow hb1; clear hb1; refine Hid.out ?_)
    unfold Hid
    repeat' (first | with_reducible refine then_exit ?_ | with_reducible refine then_normal ?_ | with_reducible refine inBlock_eq ?_ | with_reducible refine inBlock_ne rfl ?_ | with_reducible refine inBlock_normal ?_ | (refine wpList_load_if rfl 47 _ rfl w.heap.size rfl 47 _ (0, 0) _ H1.box Tryz.underlying47 rfl (by kernel_rfl) ?_; simp only [Act.put, List.setIfInBounds_toArray, List.set_cons_succ, List.set_cons_zero]) | (go_at_call 40; refine (reads_c i hr _).mono ?_; rw [hN.out]; rintro e w2 ⟨rfl, hb2⟩; replace H1 := H1.grow hb2; clear hb2; dsimp only) | (go_at_call 39; refine (list_c S hN2.out _).mono ?_; rintro e w3 ⟨v, rfl, hown, hb3⟩; dsimp only) | go_step)
    go_ret
    exact ⟨_, rfl, own_mono hown H1.below.size, below_then H1.below hb3⟩

end Go.Proofs.YtbjcdpmhmebjnaaGreat
