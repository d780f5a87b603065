/- The room that an instruction leaves to its fields, as roomOf gives it back: a contract, for every instruction. -/
import Derived.Test.YtjmdgfimmjodjaaGreatDoorV04
import Derived.Laws.CopyRow
import Derived.Laws.Rows
import Derived.Laws.Tables
import Derived.Test.YtjmdgfimmjodjaaGreatDoorV03
namespace Go.Proofs.YtjmdgfimmjodjaaGreatDoor
open Go.RowKit Go.Rel

theorem immW_below (i : Ins) (w : World) : Below w.heap.size w (immW i w) := by
  unfold immW
  cases (i.op == 1 || i.op == 4 || i.op == 6 || i.op == 5 || i.op == 34 || i.op == 35 || i.op == 33 || i.op == 37)
  · cases (i.op == 12 || i.op == 13 || i.op == 14 || i.op == 15)
    · exact below_alloc2 _ _ _
    · exact (below_alloc3 _ _ _ _).drew
  · exact below_alloc3 _ _ _ _
theorem amountW_below (op : Int) (w : World) : Below w.heap.size w (amountW op w) := by
  unfold amountW
  cases (op == 2 || op == 3 || op == 15 || op == 4)
  · exact below_alloc _ _
  · exact below_alloc2 _ _ _
theorem formW_below (op : Int) (w : World) : Below w.heap.size w (formW op w) := by
  unfold formW
  cases (op == 2 || op == 16)
  · cases (op == 3)
    · cases (op == 4)
      · cases (op == 10)
        · cases (op == 7 || op == 5)
          · cases (op == 9 || op == 11 || op == 21 || op == 23 || op == 24 || op == 26 || op == 33)
            · cases (op == 13)
              · exact Below.refl _ _
              · exact below_alloc _ _
            · exact below_alloc _ _
          · exact below_alloc _ _
        · exact below_alloc2 _ _ _
      · exact (below_alloc _ _).drew
    · exact (below_alloc2 _ _ _).drew
  · exact below_alloc _ _

theorem immOf_c (i : Ins) (w : World) : Calls Tryz.prog 70 #[i.val] w fun e w' => e = .returned (immS i.op i.sub).val ∧ Below w.heap.size w w' :=
  (immOf_x i w).mono fun _ _ ⟨h, hw⟩ => ⟨h, hw ▸ immW_below i w⟩
theorem amountOf_c (op : Int) (w : World) : Calls Tryz.prog 71 #[vI op] w fun e w' => e = .returned (amountS op).val ∧ Below w.heap.size w w' :=
  (amountOf_x op w).mono fun _ _ ⟨h, hw⟩ => ⟨h, hw ▸ amountW_below op w⟩

/-- The room's cells: x the Imm's, y the Amount's, z the Imm2's. -/
def cellsR (i : Ins) (x y z : Span) : Array Value := #[vI 0, vI (h31 (hasRd i.op)), vI (h1 (hasRd i.op)), vI 0, vI (h31 (hasRn i.op)), vI (h1 (hasRn i.op)), vI 0, vI (h31 (hasRm i.op)), vI (h1 (hasRm i.op)), vI 0, vI (h31 (hasRa i.op)), vI (h1 (hasRa i.op)), vI (subS i.op).lo, vI (subS i.op).hi, vI (subS i.op).st, vI x.lo, vI x.hi, vI x.st, vI z.lo, vI z.hi, vI z.st, vI y.lo, vI y.hi, vI y.st, vI (shiftS i.op).lo, vI (shiftS i.op).hi, vI (shiftS i.op).st, vI (condS i.op).lo, vI (condS i.op).hi, vI (condS i.op).st, .bool (flagsR i.op i.sub), .bool (minusR i.op), .bool (notR i.op), .bool (linkR i.op)]

theorem cells_one (i : Ins) (x y z : Span) : (cellsR i x y z).all (·.oneCell') = true := by simp [cellsR, Value.oneCell']
theorem imm2_4 {op : Int} (h : (op == 4) = true) : imm2S op = upToS 63 := by unfold imm2S; rw [h]; rfl
theorem imm2_6 {op : Int} (h : (op == 6) = true) : imm2S op = upToS 63 := by unfold imm2S; rw [h, Bool.or_true]; rfl
theorem imm2_no {op : Int} (h : (op == 4) = false) (h' : (op == 6) = false) : imm2S op = zeroS := by unfold imm2S; rw [h, h']; rfl

/-- Three blocks of the call's own: the instruction's box, the result, the room. -/
structure Room3 (i : Ins) (w0 : World) (Z R : Array Value) (w : World) : Prop where
  below : Below w0.heap.size w0 w
  box : w.heap[w0.heap.size]? = some (.cells i.cells 23)
  res : w.heap[w0.heap.size + 1]? = some (.cells Z 53)
  room : w.heap[w0.heap.size + 1 + 1]? = some (.cells R 53)

theorem Room3.lt {i : Ins} {w0 w : World} {Z R : Array Value} (h : Room3 i w0 Z R w) : w0.heap.size + 1 + 1 < w.heap.size := (Array.getElem?_eq_some_iff.1 h.room).1
theorem Room3.grow {i : Ins} {w0 w w' : World} {Z R : Array Value} (h : Room3 i w0 Z R w) (hb : Below w.heap.size w w') : Room3 i w0 Z R w' := by
  have := h.lt
  refine ⟨below_then h.below hb, ?_, ?_, ?_⟩
  · rw [hb.block _ (by omega)]; exact h.box
  · rw [hb.block _ (by omega)]; exact h.res
  · rw [hb.block _ (by omega)]; exact h.room

theorem setRow_other (w : World) (g k : Nat) (cs : Array Value) (h : k ≠ g) : (w.setRow g cs).heap[k]? = w.heap[k]? := by
  simp only [World.setRow, Array.getElem?_modify]
  rw [if_neg (fun e => h e.symm)]
theorem setRow_size (w : World) (g : Nat) (cs : Array Value) : (w.setRow g cs).heap.size = w.heap.size := by simp [World.setRow]

theorem Room3.setRoom {i : Ins} {w0 w : World} {Z R : Array Value} (h : Room3 i w0 Z R w) (R' : Array Value) : Room3 i w0 Z R' (w.setRow (w0.heap.size + 1 + 1) R') := by
  refine ⟨h.below.trans ⟨rfl, rfl, rfl, by rw [setRow_size]; exact Nat.le_refl _, fun k hk => setRow_other _ _ _ _ (by omega)⟩, ?_, ?_, ?_⟩
  · rw [setRow_other _ _ _ _ (by omega)]; exact h.box
  · rw [setRow_other _ _ _ _ (by omega)]; exact h.res
  · exact setRow_heap _ _ _ _ _ _ h.room
theorem Room3.setRes {i : Ins} {w0 w : World} {Z R : Array Value} (h : Room3 i w0 Z R w) (Z' : Array Value) : Room3 i w0 Z' R (w.setRow (w0.heap.size + 1) Z') := by
  refine ⟨h.below.trans ⟨rfl, rfl, rfl, by rw [setRow_size]; exact Nat.le_refl _, fun k hk => setRow_other _ _ _ _ (by omega)⟩, ?_, ?_, ?_⟩
  · rw [setRow_other _ _ _ _ (by omega)]; exact h.box
  · exact setRow_heap _ _ _ _ _ _ h.res
  · rw [setRow_other _ _ _ _ (by omega)]; exact h.room

/-- A value of some cells stored into the middle of a row. -/
theorem wpList_store_into {P : Program} {ops : Array Oper} {rest : List Oper} {o : Oper} {a : Act} {w : World} {Q : Exit → Act → World → Prop} (hgd : o.guard = none) (ty : TypeId) (x y : Operand) (ho : o.op = .store ty x y)
    (g k : Nat) (vs : List Value) (hx : a.eval x = .pointer (some ⟨g, k, none⟩)) (hy : a.eval y = .agg vs.toArray)
    (t : TypeId) (old : Array Value) (hg : w.heap[g]? = some (.cells old t (0, 0))) (hi : (P.info? ty).map (·.size) = some vs.length)
    (hlen : k + 0 + vs.length ≤ old.size) (h1 : ∀ v ∈ vs, v.oneCell' = true) (new : Array Value) (hnew : new = (old.toList.take (k + 0) ++ vs ++ old.toList.drop (k + 0 + vs.length)).toArray)
    (h : wpList P ops Q rest (a.put o.dst undef) (w.setRow g new)) : wpList P ops Q (o :: rest) a w := by
  refine wpList_plain hgd fun K hK => ?_
  have hst : (storeVar ty ⟨g, k, none⟩ (.agg vs.toArray)).run P w = .ok () (w.setRow g new) := by
    have := run_storeCells_at (P := P) g k t vs 0 old w hg hlen h1
    rw [← hnew] at this
    cases hq : P.info? ty with
    | none => simp [hq] at hi
    | some inf =>
      have hs : vs.length = inf.size := by simp [hq] at hi; omega
      simp [storeVar, sizeOf, typeInfo, hq, Value.cells, hs, this]
  unfold Oper.wp execOp
  simp only [ho, hx, hy, Instr.storeAt, Instr.sureAddr, Sem.run_bind, Sem.run_pure, Result.andThen_ok, hst]
  exact hK _ _ h

theorem rel_load_row {P : Program} {o : Oper} {a : Act} {w : World} (ty : TypeId) (x : Operand) (ho : o.op = .load ty x)
    (g : Nat) (hx : a.eval x = .pointer (some ⟨g, 0, none⟩)) (t : TypeId) (cs : Array Value) (fr : Nat × Nat) (d : TypeDesc) (hg : w.heap[g]? = some (.cells cs t fr))
    (hu : P.underlying ty = some d) (hd : (match d with | .struct _ | .array _ _ => true | _ => false) = true) (hi : (P.info? ty).map (·.size) = some cs.size) :
    relUpon P Grows (fun v _ => v = .agg cs) w ((execOp a.eval o).run P w) := by
  unfold execOp
  simp only [ho, hx, Instr.loadAt, Instr.sureAddr, Sem.run_bind, Sem.run_pure, Result.andThen_ok, run_loadVar_row w g t ty cs fr d hg hu hd hi]
  exact ⟨Below.refl _ _, rfl⟩

theorem room3_start {i : Ins} {w w' : World} {Z R : Array Value} (h : Below (((w.alloc (.cells i.cells 23)).alloc (.cells Z 53)).alloc (.cells R 53)).heap.size (((w.alloc (.cells i.cells 23)).alloc (.cells Z 53)).alloc (.cells R 53)) w') : Room3 i w Z R w' := by
  refine Room3.grow (w := ((w.alloc (.cells i.cells 23)).alloc (.cells Z 53)).alloc (.cells R 53)) ?_ h
  have e1 : (w.alloc (.cells i.cells 23)).heap.size = w.heap.size + 1 := Array.size_push ..
  have e2 : ((w.alloc (.cells i.cells 23)).alloc (.cells Z 53)).heap.size = w.heap.size + 1 + 1 := by rw [← e1]; exact Array.size_push ..
  refine ⟨below_alloc3 _ _ _ _, ?_, ?_, ?_⟩
  · rw [Below.heap_alloc _ _ _ (by omega), Below.heap_alloc _ _ _ (by omega), heap_alloc_new]
  · rw [Below.heap_alloc _ _ _ (by omega), ← e1, heap_alloc_new]
  · rw [← e2, heap_alloc_new]

theorem setForm_r (i : Ins) (o1 o2 : Obj) (w : World) (b : Nat) (hb : b = w.heap.size) :
    Calls Tryz.prog 69 #[.pointer (some ⟨b, 0, none⟩), i.val] (((w.alloc (.cells #[vI 0, vI (h31 (hasRd i.op)), vI (h1 (hasRd i.op)), vI 0, vI (h31 (hasRn i.op)), vI (h1 (hasRn i.op)), vI 0, vI (h31 (hasRm i.op)), vI (h1 (hasRm i.op)), vI 0, vI (h31 (hasRa i.op)), vI (h1 (hasRa i.op)), vI 0, vI 0, vI 0, vI 0, vI 0, vI 0, vI 0, vI 0, vI 0, vI 0, vI 0, vI 0, vI 0, vI 0, vI 0, vI 0, vI 0, vI 0, .bool false, .bool false, .bool false, .bool false] 53)).alloc o1).alloc o2) fun e w' => e = .returned (.tuple #[]) ∧
      Below (w.alloc (.cells (cellsR i zeroS zeroS zeroS) 53)).heap.size (w.alloc (.cells (cellsR i zeroS zeroS zeroS) 53)) w' := by
  refine (setForm_b i _ _ _ _ _ _ _ _ o1 o2 w b hb).mono ?_
  rintro e w' ⟨h, hw⟩
  refine ⟨h, ?_⟩
  rw [hw]
  exact below_then (below_alloc3 _ _ _ _) (formW_below _ _)

theorem Room3.op {i : Ins} {w0 w : World} {Z R : Array Value} (h : Room3 i w0 Z R w) : w.cell? ⟨w0.heap.size, 0, none⟩ = some (vI i.op) := by
  simp [World.cell?, h.box]

set_option maxRecDepth 8000 in
set_option maxHeartbeats 8000000 in
theorem roomOf_c (i : Ins) (w : World) :
    Calls Tryz.prog 36 #[i.val] w fun e w' => e = .returned (.agg (cellsR i (immS i.op i.sub) (amountS i.op) (imm2S i.op))) ∧ Below w.heap.size w w' := by
  go_enter Tryz.func36, Tryz.ntmps36
  repeat' (first | with_reducible refine then_exit ?_ | with_reducible refine then_normal ?_ | with_reducible refine inBlock_eq ?_ | with_reducible refine inBlock_ne rfl ?_ | with_reducible refine inBlock_normal ?_ | (go_at_call 68; refine (setRegisters_b _ _ _ (by simp)).mono ?_; rintro e w' ⟨rfl, rfl⟩; dsimp only) | (go_at_call 69; refine (setForm_r i _ _ _ _ (by simp)).mono ?_; rintro e w' ⟨rfl, hw'⟩; dsimp only) | go_step)
  obtain ⟨Z, hZ, H3⟩ : ∃ Z : Array Value, Z.size = 34 ∧ Room3 i w Z (cellsR i zeroS zeroS zeroS) w' := ⟨_, by rfl, room3_start hw'⟩
  clear hw'
  refine wp_region_tail 5 Grows (fun x => Below w'.heap.size w' x) [.inl i.val, .inl (immS i.op i.sub).val, .inl (.pointer (some ⟨w.heap.size, 0, none⟩)), .inl (vI i.op), .inl (amountS i.op).val] (by kernel_rfl) (by kernel_rfl) (up_below w') ⟨rfl, rfl, rfl, Nat.le_refl _, fun _ _ => rfl⟩ (by simp [upK]) ?_
  refine ⟨fun w1 hC _ => rel_load_row 23 _ rfl w.heap.size rfl 23 i.cells (0, 0) _ (H3.grow hC).box Tryz.underlying23 rfl (by kernel_rfl), ?_⟩
  refine ⟨fun w1 hC _ => ?_, ?_⟩
  · go_simp
    refine (immOf_c i w1).mono ?_
    rintro e w2 ⟨rfl, hb⟩
    exact ⟨rfl, hb⟩
  refine ⟨fun w1 hC _ => ?_, ?_⟩
  · go_simp
    exact Below.refl _ _
  refine ⟨fun w1 hC _ => ?_, ?_⟩
  · have hop := (H3.grow hC).op
    go_simp
    exact Below.refl _ _
  refine ⟨fun w1 hC _ => ?_, ?_⟩
  · go_simp
    refine (amountOf_c i.op w1).mono ?_
    rintro e w2 ⟨rfl, hb⟩
    exact ⟨rfl, hb⟩
  intro w1 hC _
  replace H3 := H3.grow hC
  clear hC
  simp only [List.drop_succ_cons, List.drop_zero, Act.put, List.setIfInBounds_toArray, List.set_cons_succ, List.set_cons_zero]
  iterate 3 go_step
  refine wpList_store_into rfl 51 _ _ rfl (w.heap.size + 1 + 1) 15 [vI (immS i.op i.sub).lo, vI (immS i.op i.sub).hi, vI (immS i.op i.sub).st] rfl rfl 53 _ H3.room (by kernel_rfl) (by simp [cellsR]) (by simp [Value.oneCell']) (cellsR i (immS i.op i.sub) zeroS zeroS) rfl ?_
  replace H3 := H3.setRoom (cellsR i (immS i.op i.sub) zeroS zeroS)
  revert H3
  generalize w1.setRow _ _ = w2
  intro H3
  simp only [Act.put]
  iterate 3 go_step
  refine wpList_store_into rfl 51 _ _ rfl (w.heap.size + 1 + 1) 21 [vI (amountS i.op).lo, vI (amountS i.op).hi, vI (amountS i.op).st] rfl rfl 53 _ H3.room (by kernel_rfl) (by simp [cellsR]) (by simp [Value.oneCell']) (cellsR i (immS i.op i.sub) (amountS i.op) zeroS) rfl ?_
  replace H3 := H3.setRoom (cellsR i (immS i.op i.sub) (amountS i.op) zeroS)
  revert H3
  generalize w2.setRow _ _ = w3
  intro H3
  simp only [Act.put]
  have hop := H3.op
  by_cases h4 : (i.op == 4) = true
  · go_upto_region 6 with fail
    iterate 3 go_step
    refine (upTo_c _ _).mono ?_
    rintro e w4 ⟨rfl, rfl⟩
    dsimp only
    replace H3 := H3.grow (below_alloc w3 (.cells #[vI 0, vI 63, vI 1] 51))
    revert H3
    generalize w3.alloc _ = w5
    intro H3
    clear hop
    iterate 4 go_step
    refine wpList_store_into rfl 51 _ _ rfl (w.heap.size + 1 + 1) 18 [vI 0, vI 63, vI 1] rfl rfl 53 _ H3.room (by kernel_rfl) (by simp [cellsR]) (by simp [Value.oneCell']) (cellsR i (immS i.op i.sub) (amountS i.op) (upToS 63)) rfl ?_
    replace H3 := H3.setRoom (cellsR i (immS i.op i.sub) (amountS i.op) (upToS 63))
    revert H3
    generalize w5.setRow _ _ = w6
    intro H3
    simp only [Act.put]
    go_upto_region 7 with fail
    go_step
    refine wpList_load_row rfl 53 _ rfl (w.heap.size + 1 + 1) rfl 53 _ (0, 0) _ H3.room Tryz.underlying53 rfl (by kernel_rfl) ?_
    simp only [Act.put, List.setIfInBounds_toArray, List.set_cons_succ, List.set_cons_zero]
    refine wpList_store_row rfl 53 _ _ rfl (w.heap.size + 1) _ rfl rfl 53 Z H3.res (by kernel_rfl) (by rw [hZ]; rfl) (cells_one _ _ _ _) ?_
    replace H3 := H3.setRes (cellsR i (immS i.op i.sub) (amountS i.op) (upToS 63))
    revert H3
    generalize w6.setRow _ _ = w7
    intro H3
    simp only [Act.put]
    iterate 4 go_step
    refine bodyPost_ret (v := .agg (cellsR i (immS i.op i.sub) (amountS i.op) (upToS 63))) (results_cell_row rfl _ _ (w.heap.size + 1) 53 _ (0, 0) _ rfl H3.res Tryz.underlying53 rfl (by kernel_rfl)) rfl ⟨?_, H3.below⟩
    rw [imm2_4 h4]
  · have h4 : (i.op == 4) = false := by simpa using h4
    by_cases h6 : (i.op == 6) = true
    · go_upto_region 6 with fail
      iterate 3 go_step
      refine (upTo_c _ _).mono ?_
      rintro e w4 ⟨rfl, rfl⟩
      dsimp only
      replace H3 := H3.grow (below_alloc w3 (.cells #[vI 0, vI 63, vI 1] 51))
      revert H3
      generalize w3.alloc _ = w5
      intro H3
      clear hop
      iterate 4 go_step
      refine wpList_store_into rfl 51 _ _ rfl (w.heap.size + 1 + 1) 18 [vI 0, vI 63, vI 1] rfl rfl 53 _ H3.room (by kernel_rfl) (by simp [cellsR]) (by simp [Value.oneCell']) (cellsR i (immS i.op i.sub) (amountS i.op) (upToS 63)) rfl ?_
      replace H3 := H3.setRoom (cellsR i (immS i.op i.sub) (amountS i.op) (upToS 63))
      revert H3
      generalize w5.setRow _ _ = w6
      intro H3
      simp only [Act.put]
      go_upto_region 7 with fail
      go_step
      refine wpList_load_row rfl 53 _ rfl (w.heap.size + 1 + 1) rfl 53 _ (0, 0) _ H3.room Tryz.underlying53 rfl (by kernel_rfl) ?_
      simp only [Act.put, List.setIfInBounds_toArray, List.set_cons_succ, List.set_cons_zero]
      refine wpList_store_row rfl 53 _ _ rfl (w.heap.size + 1) _ rfl rfl 53 Z H3.res (by kernel_rfl) (by rw [hZ]; rfl) (cells_one _ _ _ _) ?_
      replace H3 := H3.setRes (cellsR i (immS i.op i.sub) (amountS i.op) (upToS 63))
      revert H3
      generalize w6.setRow _ _ = w7
      intro H3
      simp only [Act.put]
      iterate 4 go_step
      refine bodyPost_ret (v := .agg (cellsR i (immS i.op i.sub) (amountS i.op) (upToS 63))) (results_cell_row rfl _ _ (w.heap.size + 1) 53 _ (0, 0) _ rfl H3.res Tryz.underlying53 rfl (by kernel_rfl)) rfl ⟨?_, H3.below⟩
      rw [imm2_6 h6]
    · have h6 : (i.op == 6) = false := by simpa using h6
      go_upto_region 7 with fail
      go_step
      refine wpList_load_row rfl 53 _ rfl (w.heap.size + 1 + 1) rfl 53 _ (0, 0) _ H3.room Tryz.underlying53 rfl (by kernel_rfl) ?_
      simp only [Act.put, List.setIfInBounds_toArray, List.set_cons_succ, List.set_cons_zero]
      refine wpList_store_row rfl 53 _ _ rfl (w.heap.size + 1) _ rfl rfl 53 Z H3.res (by kernel_rfl) (by rw [hZ]; rfl) (cells_one _ _ _ _) ?_
      replace H3 := H3.setRes (cellsR i (immS i.op i.sub) (amountS i.op) zeroS)
      revert H3
      generalize w3.setRow _ _ = w7
      intro H3
      simp only [Act.put]
      iterate 4 go_step
      refine bodyPost_ret (v := .agg (cellsR i (immS i.op i.sub) (amountS i.op) zeroS)) (results_cell_row rfl _ _ (w.heap.size + 1) 53 _ (0, 0) _ rfl H3.res Tryz.underlying53 rfl (by kernel_rfl)) rfl ⟨?_, H3.below⟩
      rw [imm2_no h4 h6]
end Go.Proofs.YtjmdgfimmjodjaaGreatDoor
/- What a span holds, and whether the numbers and signs of an instruction are in its room: contracts. -/
namespace Go.Proofs.YtjmdgfimmjodjaaGreatDoor
open Go.RowKit Go.Rel


set_option maxHeartbeats 400000 in
theorem holds_c (lo hi st n : Int) (hs : Hid (st ≠ 0 ∨ (lo = 0 ∧ hi = 0))) (w : World) :
    Calls Tryz.prog 73 #[.agg #[vI lo, vI hi, vI st], vI n] w fun e w' => e = .returned (.bool (holdsB ⟨lo, hi, st⟩ n)) ∧ w' = w.alloc (.cells #[vI lo, vI hi, vI st] 51) := by
  by_cases h1 : lo ≤ n
  · by_cases h2 : n ≤ hi
    · by_cases h3 : (n == 0) = true
      · have hR : Hid (holdsB ⟨lo, hi, st⟩ n = true) := by show _ = _; simp [holdsB, h1, h2, h3]
        go_enter Tryz.func73, Tryz.ntmps73
        go_wp2
        go_ret
        exact ⟨ret_bool hR.out.symm, rfl⟩
      · have h3 : (n == 0) = false := by simpa using h3
        have h4 : ¬ st = 0 := by
          rcases hs.out with h | ⟨rfl, rfl⟩
          · exact h
          · have : n ≠ 0 := by simpa using h3
            omega
        have hR : Hid (holdsB ⟨lo, hi, st⟩ n = (n.tmod st == 0)) := by show _ = _; simp only [holdsB, h1, h2, h3]; simp
        go_enter Tryz.func73, Tryz.ntmps73
        go_wp2
        go_ret
        exact ⟨ret_bool hR.out.symm, rfl⟩
    · have hR : Hid (holdsB ⟨lo, hi, st⟩ n = false) := by show _ = _; simp [holdsB, h2]
      have h2 : hi < n := by omega
      go_enter Tryz.func73, Tryz.ntmps73
      go_wp2
      go_ret
      exact ⟨ret_bool hR.out.symm, rfl⟩
  · have hR : Hid (holdsB ⟨lo, hi, st⟩ n = false) := by show _ = _; simp [holdsB, h1]
    have h1 : n < lo := by omega
    go_enter Tryz.func73, Tryz.ntmps73
    go_wp2
    go_ret
    exact ⟨ret_bool hR.out.symm, rfl⟩

set_option maxRecDepth 4000 in
set_option maxHeartbeats 4000000 in
theorem numbers_c (a0 a1 a2 b0 b1 b2 c0 c1 c2 d0 d1 d2 e0 e1 e2 f0 f1 f2 g0 g1 g2 h0 h1' h2 k0 k1 k2 l0 l1 l2 : Int) (q1 q2 q3 q4 : Bool) (i : Ins)
    (ha : Hid (a2 ≠ 0 ∨ (a0 = 0 ∧ a1 = 0))) (hb : Hid (b2 ≠ 0 ∨ (b0 = 0 ∧ b1 = 0))) (hc : Hid (c2 ≠ 0 ∨ (c0 = 0 ∧ c1 = 0))) (hd : Hid (d2 ≠ 0 ∨ (d0 = 0 ∧ d1 = 0))) (he : Hid (e2 ≠ 0 ∨ (e0 = 0 ∧ e1 = 0))) (hf : Hid (f2 ≠ 0 ∨ (f0 = 0 ∧ f1 = 0))) (hg : Hid (g2 ≠ 0 ∨ (g0 = 0 ∧ g1 = 0))) (hh : Hid (h2 ≠ 0 ∨ (h0 = 0 ∧ h1' = 0))) (hk : Hid (k2 ≠ 0 ∨ (k0 = 0 ∧ k1 = 0))) (hl : Hid (l2 ≠ 0 ∨ (l0 = 0 ∧ l1 = 0))) (w : World) :
    Calls Tryz.prog 37 #[.agg #[vI a0, vI a1, vI a2, vI b0, vI b1, vI b2, vI c0, vI c1, vI c2, vI d0, vI d1, vI d2, vI e0, vI e1, vI e2, vI f0, vI f1, vI f2, vI g0, vI g1, vI g2, vI h0, vI h1', vI h2, vI k0, vI k1, vI k2, vI l0, vI l1, vI l2, .bool q1, .bool q2, .bool q3, .bool q4], i.val] w fun e w' =>
      e = .returned (.bool (holdsB ⟨a0, a1, a2⟩ i.rd && holdsB ⟨b0, b1, b2⟩ i.rn && holdsB ⟨c0, c1, c2⟩ i.rm && holdsB ⟨d0, d1, d2⟩ i.ra && holdsB ⟨e0, e1, e2⟩ i.sub && holdsB ⟨f0, f1, f2⟩ i.imm && holdsB ⟨g0, g1, g2⟩ i.imm2 && holdsB ⟨h0, h1', h2⟩ i.amount && holdsB ⟨k0, k1, k2⟩ i.shift && holdsB ⟨l0, l1, l2⟩ i.cond)) ∧ Below w.heap.size w w' := by
  obtain ⟨op, sub, rd, rn, rm, ra, imm, imm2, amount, shift, cond, sys, flags, minus, not, link⟩ := i
  go_enter Tryz.func37, Tryz.ntmps37
  go_wp2_with (go_at_call 73; refine (holds_c _ _ _ _ (by assumption) _).mono ?_; rintro e w' ⟨rfl, rfl⟩)
  all_goals (go_ret; refine ⟨ret_bool ?_, by repeat (first | exact Below.refl _ _ | apply below_more)⟩; simp [*])

set_option maxRecDepth 4000 in
set_option maxHeartbeats 4000000 in
theorem signs_c (a0 a1 a2 b0 b1 b2 c0 c1 c2 d0 d1 d2 e0 e1 e2 f0 f1 f2 g0 g1 g2 h0 h1' h2 k0 k1 k2 l0 l1 l2 : Int) (q1 q2 q3 q4 : Bool) (i : Ins) (w : World) :
    Calls Tryz.prog 38 #[.agg #[vI a0, vI a1, vI a2, vI b0, vI b1, vI b2, vI c0, vI c1, vI c2, vI d0, vI d1, vI d2, vI e0, vI e1, vI e2, vI f0, vI f1, vI f2, vI g0, vI g1, vI g2, vI h0, vI h1', vI h2, vI k0, vI k1, vI k2, vI l0, vI l1, vI l2, .bool q1, .bool q2, .bool q3, .bool q4], i.val] w fun e w' =>
      e = .returned (.bool ((q1 || !i.flags) && (q2 || !i.minus) && (q3 || !i.not) && (q4 || !i.link))) ∧ Below w.heap.size w w' := by
  obtain ⟨op, sub, rd, rn, rm, ra, imm, imm2, amount, shift, cond, sys, flags, minus, not, link⟩ := i
  go_enter Tryz.func38, Tryz.ntmps38
  go_wp2
  all_goals (go_ret; refine ⟨ret_bool ?_, by repeat (first | exact Below.refl _ _ | apply below_more)⟩; simp [*])
end Go.Proofs.YtjmdgfimmjodjaaGreatDoor
/- Whether the system register and the form of an instruction are right: contracts. -/
namespace Go.Proofs.YtjmdgfimmjodjaaGreatDoor
open Go.RowKit Go.Rel

def sysB (n : Int) : Bool := n == 17920 || n == 16897 || n == 16896 || n == 17040 || n == 17152 || n == 16904 || n == 16389 || n == 16914 || n == 23057 || n == 23056 || n == 24194 || n == 18016 || n == 18017 || n == 16944 || n == 18013 || n == 24322 || n == 24345 || n == 24346
def rightSysB (op sys : Int) : Bool := bif op != 31 && op != 32 then sys == 0 else sysB sys
def rightFormB (op sub amount imm imm2 : Int) : Bool := bif op == 4 then maskE amount imm imm2 == 0 else bif op == 5 then sub != 1 else true


set_option maxRecDepth 4000 in
set_option maxHeartbeats 4000000 in
theorem rightSys_c (i : Ins) (w : World) :
    Calls Tryz.prog 39 #[i.val] w fun e w' => e = .returned (.bool (rightSysB i.op i.sys)) ∧ Below w.heap.size w w' := by
  obtain ⟨op, sub, rd, rn, rm, ra, imm, imm2, amount, shift, cond, sys, flags, minus, not, link⟩ := i
  by_cases h31 : op = 31
  · subst h31
    have hR : Hid (rightSysB 31 sys = sysB sys) := rfl
    go_enter Tryz.func39, Tryz.ntmps39
    go_wp2
    all_goals (go_ret; refine ⟨ret_bool ?_, by repeat (first | exact Below.refl _ _ | apply below_more)⟩; rw [hR.out]; simp only [sysB, Bool.or_true, Bool.true_or, Bool.or_false, *])
  · by_cases h32 : op = 32
    · subst h32
      have hR : Hid (rightSysB 32 sys = sysB sys) := rfl
      go_enter Tryz.func39, Tryz.ntmps39
      go_wp2
      all_goals (go_ret; refine ⟨ret_bool ?_, by repeat (first | exact Below.refl _ _ | apply below_more)⟩; rw [hR.out]; simp only [sysB, Bool.or_true, Bool.true_or, Bool.or_false, *])
    · have g1 : (op != 31) = true := by simpa using h31
      have g2 : (op != 32) = true := by simpa using h32
      have hR : Hid (rightSysB op sys = (sys == 0)) := by show _ = _; unfold rightSysB; rw [g1, g2]; rfl
      go_enter Tryz.func39, Tryz.ntmps39
      go_wp2
      go_ret
      exact ⟨ret_bool hR.out.symm, below_alloc _ _⟩

set_option maxRecDepth 4000 in
set_option maxHeartbeats 4000000 in
theorem maskOf_c (i : Ins) (w : World) :
    Calls Tryz.prog 74 #[i.val] w fun e w' => e = .returned (.tuple #[.int .u64 (maskV i.amount i.imm i.imm2), .int .i64 (maskE i.amount i.imm i.imm2)]) ∧ Below w.heap.size w w' := by
  obtain ⟨op, sub, rd, rn, rm, ra, imm, imm2, amount, shift, cond, sys, flags, minus, not, link⟩ := i
  go_enter Tryz.func74, Tryz.ntmps74
  go_wp2_with (go_at_call 84; refine (mask_c _ _ _ _).mono ?_; rintro e w' ⟨rfl, m, rfl⟩)
  go_ret2
  exact ⟨rfl, below_draws (below_alloc _ _)⟩

set_option maxRecDepth 4000 in
set_option maxHeartbeats 4000000 in
theorem rightForm_c (i : Ins) (w : World) :
    Calls Tryz.prog 40 #[i.val] w fun e w' => e = .returned (.bool (rightFormB i.op i.sub i.amount i.imm i.imm2)) ∧ Below w.heap.size w w' := by
  obtain ⟨op, sub, rd, rn, rm, ra, imm, imm2, amount, shift, cond, sys, flags, minus, not, link⟩ := i
  go_enter Tryz.func40, Tryz.ntmps40
  go_wp2_with (go_at_call 74; refine (maskOf_c ⟨_, _, _, _, _, _, _, _, _, _, _, _, _, _, _, _⟩ _).mono ?_; rintro e w' ⟨rfl, hb⟩)
  · go_ret
    refine ⟨ret_bool ?_, below_then (below_alloc _ _) hb⟩
    simp only [rightFormB, cond_true, *]
  · go_ret
    refine ⟨ret_bool ?_, below_alloc _ _⟩
    simp only [rightFormB, cond_true, cond_false, *]
  · go_ret
    refine ⟨ret_bool ?_, below_alloc _ _⟩
    simp only [rightFormB, cond_false, *]
end Go.Proofs.YtjmdgfimmjodjaaGreatDoor
