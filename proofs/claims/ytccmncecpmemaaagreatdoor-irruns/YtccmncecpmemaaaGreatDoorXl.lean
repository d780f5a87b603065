/- Ga, Gb, Ha, Ds, Dt, Du, Dv of the seat, joined. -/
import Derived.Test.YtccmncecpmemaaaGreatDoorXk
import Derived.Test.YtccmncecpmemaaaGreatDoorXh
import Derived.Test.YtccmncecpmemaaaGreatDoorFr
import Derived.Test.YtccmncecpmemaaaGreatDoorXi
/- A copy of a block. -/
namespace Go.Proofs.YtccmncecpmemaaaGreatDoor
open Go.RowKit
set_option linter.unusedVariables false
set_option linter.unusedSimpArgs false
set_option maxRecDepth 8000

theorem gt_one (t : Gt) : (gtA t).all (·.oneCell') = true := by simp [Value.oneCell']
theorem run_load44 {w : World} {p : Addr} {t : Gt} (A : GtAt w p t) : (loadVar 54 p).run Tryz.prog w = .ok (gtV t) w := by
  have h1 := run_loadCells_list (P := Tryz.prog) w p (gtA t).toList (fun j v hv => by
    match j, hv with
    | 0, hv => cases hv; exact A.c0
    | 1, hv => cases hv; exact A.c1
    | 2, hv => cases hv; exact A.c2
    | j + 3, hv => simp at hv)
  have hi : (Tryz.prog.info? 54).map (·.size) = some 3 := by kernel_rfl
  have hagg : (isAgg 54).run Tryz.prog w = .ok true w := by
    unfold isAgg
    rw [Sem.run_bind, run_underlying Tryz.underlying54 w]
    rfl
  cases hq : Tryz.prog.info? 54 with
  | none => simp [hq] at hi
  | some i =>
    have hs : i.size = 3 := by simpa [hq] using hi
    have h1 : (loadCells p 3).run Tryz.prog w = _ := h1
    simp [loadVar, Sem.run_bind, hagg, sizeOf, typeInfo, hq, hs, h1]
theorem wpList_load44 {ops : Array Oper} {rest : List Oper} {o : Oper} {a : Act} {w : World} {Q : Exit → Act → World → Prop} (hw : Region.wanted o (yielded ops a.tmps) = true) (x : Operand) (ho : o.op = .load 54 x)
    (p : Addr) (hx : a.eval x = .pointer (some p)) (t : Gt) (A : GtAt w p t)
    (h : wpList Tryz.prog ops Q rest (a.put o.dst (gtV t)) w) : wpList Tryz.prog ops Q (o :: rest) a w := by
  refine BigFrame.wpList_want hw fun K hK => ?_
  unfold Oper.wp execOp
  simp only [ho, hx, Instr.loadAt, Instr.sureAddr, Sem.run_bind, Sem.run_pure, Result.andThen_ok, run_load44 A]
  exact hK _ _ h
theorem own_of {w w' : World} {base n size : Nat} {e : TypeId} {v : Value} {xs : List Value} (h : w.ownsRow base e size v n xs) (hk : ∀ g, base ≤ g → w'.heap[g]? = w.heap[g]?) : w'.ownsRow base e size v n xs :=
  ⟨h.1, h.2.imp id fun ⟨g, cap, cur, e, hb, hg, r⟩ => ⟨g, cap, cur, e, hb, by rw [hk g hb]; exact hg, r⟩⟩
/-- A copy of a block's operations. -/
structure OpsC (w : World) (v : Value) (l : List Opr) : Prop where
  ops : Ops w v l
  cap : ∀ ao n c, v = .slice ao n c → n ≤ c
  one : v.oneCell' = true
theorem OpsC.grow {w w' : World} {v : Value} {l : List Opr} (h : OpsC w v l) (hb : Below w.heap.size w w') : OpsC w' v l := ⟨h.ops.grow hb, h.cap, h.one⟩
theorem opsC_of {w : World} {base : Nat} {v : Value} {l : List Opr} (h : w.ownsRow base 27 6 v l.length (opF l)) (hm : l.length ≤ maxLen) : OpsC w v l := by
  rcases h.2 with ⟨rfl, h0⟩ | ⟨g, cap, cur, rfl, _, hg, h1, h2, h3, h4⟩
  · obtain rfl : l = [] := List.length_eq_zero_iff.1 h0
    exact ⟨⟨⟨none, 0, rfl⟩, Nat.zero_le _, fun h => absurd h (by simp)⟩, fun ao n c e => (by cases e; exact Nat.le_refl _), rfl⟩
  · refine ⟨⟨⟨_, _, rfl⟩, hm, fun _ => ⟨_, _, rfl, fun k o ho => ?_⟩⟩, fun ao n c e => (by cases e; exact h1), rfl⟩
    have hk : k < l.length := (List.getElem?_eq_some_iff.1 ho).1
    have g1 : ∀ j, j < 6 → w.cell? ⟨g, k * 6 + j, none⟩ = (opA o)[j]? := fun j hj => by
      rw [h.cellAt _ (by omega)]; exact opF_get ho j hj
    have e : (⟨g, 0, none⟩ : Addr).add (k * 6) = ⟨g, k * 6, none⟩ := by unfold Addr.add; simp; intro h; exact h.symm
    rw [e]
    exact ⟨lt_of_some hg, g1 0 (by decide), g1 1 (by decide), g1 2 (by decide), g1 3 (by decide), g1 4 (by decide), g1 5 (by decide)⟩
theorem wpList_copy {ops : Array Oper} {rest : List Oper} {o : Oper} {a : Act} {w : World} {Q : Exit → Act → World → Prop} (hgd : o.guard = none) (s x : Operand) (ho : o.op = .call { callee := .builtin .append, args := #[s, x], argTypes := #[23, 23] }) {v : Value} {l : List Opr} (hs : a.eval s = .slice none 0 0) (hx : a.eval x = v) (O : Ops w v l) (hl : l.length * 48 ≤ 140737488351232)
    (h : ∀ v' w', w'.ownsRow w.heap.size 27 6 v' l.length (opF l) → Below w.heap.size w w' → wpList Tryz.prog ops Q rest (a.put o.dst v') w') : wpList Tryz.prog ops Q (o :: rest) a w :=
  wpList_plain hgd fun _ hK => by
    obtain ⟨v', w', hr, q1, q2⟩ := run_copyO O hl o.type
    unfold Oper.wp execOp
    simp only [ho, resolve, invoke, builtin, Sem.run_bind, Sem.run_pure, Result.andThen_ok, List.map_toArray, List.map_cons, List.map_nil, hs, hx, hr]
    exact hK _ _ (h v' w' q1 q2)
theorem bl_set3 (pc words el : Int) (v u : Value) : (blA pc words el v).setIfInBounds 3 u = blA pc words el u := rfl
set_option maxHeartbeats 2000000 in
theorem copied_c {w : World} {pc words el : Int} {v : Value} {l : List Opr} (O : Ops w v l) (hl : l.length * 48 ≤ 140737488351232) : Calls Tryz.prog 16 #[blV pc words el v] w fun e w' => ∃ v', e = .returned (blV pc words el v') ∧ OpsC w' v' l ∧ Below w.heap.size w w' := by
  have hb := below_alloc w (.cells (blA pc words el v) 25)
  have hb2 := below_then hb (Nat.le_refl _) (below_alloc (w.alloc (.cells (blA pc words el v) 25)) (.cells (blA 0 0 0 (.slice none 0 0)) 25))
  have r1 : ((w.alloc (.cells (blA pc words el v) 25)).alloc (.cells (blA 0 0 0 (.slice none 0 0)) 25)).heap[w.heap.size]? = some (.cells (blA pc words el v) 25) := by
    rw [Below.heap_alloc _ _ _ (by simp)]; exact heap_alloc_new _ _
  have r2 : ((w.alloc (.cells (blA pc words el v) 25)).alloc (.cells (blA 0 0 0 (.slice none 0 0)) 25)).heap[w.heap.size + 1]? = some (.cells (blA 0 0 0 (.slice none 0 0)) 25) := by
    have := heap_alloc_new (w.alloc (.cells (blA pc words el v) 25)) (.cells (blA 0 0 0 (.slice none 0 0)) 25)
    rw [World.size_alloc] at this; exact this
  have O1 := O.grow hb2
  obtain ⟨ao, cap, ev⟩ := O.len
  subst ev
  go_enter Tryz.func16, Tryz.ntmps16
  go_upto_region 1 with fail
  generalize (w.alloc (.cells (blA pc words el (.slice ao l.length cap)) 25)).alloc (.cells (blA 0 0 0 (.slice none 0 0)) 25) = w1 at *
  have hne : w.heap.size ≠ w.heap.size + 1 := by omega
  generalize hq2 : w.heap.size + 1 = b2 at r2 hne ⊢
  have hle2 : w.heap.size ≤ b2 := by omega
  clear hq2
  have z3 : w1.cell? ⟨w.heap.size, 3, none⟩ = some (.slice ao l.length cap) := by rw [cell_of_row _ _ _ _ _ _ r1]; rfl
  go_upto_region 2 with (first | (at_builtin; (refine wpList_copy rfl _ _ rfl rfl rfl O1 hl ?_); intro v' w2 q1 q2; obtain ⟨ao', cap', ev'⟩ := (opsC_of q1 O1.max).ops.len; subst ev'; simp only [Act.put, List.setIfInBounds_toArray, List.set_cons_succ, List.set_cons_zero]; have r1' := keepRow r1 q2; have r2' := keepRow r2 q2; have z3' : w2.cell? ⟨w.heap.size, 3, none⟩ = some (.slice ao l.length cap) := (by rw [cell_of_row _ _ _ _ _ _ r1']; rfl); have f3 : w2.frozen? ⟨w.heap.size, 3, none⟩ = false := frozen_of_row _ _ _ _ _ r1'))
  have r3 := heap_setCell_same w2 w.heap.size 3 _ 25 (.slice ao' l.length cap') r1'
  rw [bl_set3] at r3
  have r4 : (w2.setCell ⟨w.heap.size, 3, none⟩ (.slice ao' l.length cap')).heap[b2]? = some (.cells (blA 0 0 0 (.slice none 0 0)) 25) := by
    rw [heap_setCell_other _ _ _ _ (Ne.symm hne)]; exact r2'
  have hlt1 : w.heap.size < w1.heap.size := lt_of_some r1
  have hlt2 : b2 < w1.heap.size := lt_of_some r2
  have q3 : (w2.setCell ⟨w.heap.size, 3, none⟩ (.slice ao' l.length cap')).ownsRow w1.heap.size 27 6 (.slice ao' l.length cap') l.length (opF l) := own_of q1 (fun g hg => heap_setCell_other _ _ _ _ (by show g ≠ w.heap.size; omega))
  have hb3 : Below w.heap.size w (w2.setCell ⟨w.heap.size, 3, none⟩ (.slice ao' l.length cap')) := below_cell (below_then hb2 (Nat.le_refl _) q2) (Nat.le_refl _)
  generalize w2.setCell ⟨w.heap.size, 3, none⟩ (.slice ao' l.length cap') = w3 at *
  go_wp2_with (first | ((with_reducible refine wpList_load_if rfl 25 _ rfl _ rfl 25 _ (0, 0) _ r3 Tryz.underlying25 rfl (bl_inf _ _ _ _) ?_); simp only [Act.put, List.setIfInBounds_toArray, List.set_cons_succ, List.set_cons_zero]) | ((with_reducible refine wpList_store_row rfl 25 _ _ rfl b2 (blA pc words el (.slice ao' l.length cap')) rfl rfl 25 _ r4 (bl_inf _ _ _ _) rfl (blk_one _ _ _ _ rfl) ?_); try simp only [Act.put]))
  refine bodyPost_ret (back25 rfl _ _ b2 rfl (setRow_heap _ _ _ _ _ _ r4)) rfl ?_
  exact ⟨_, rfl, opsC_of (own_of q3 (fun g hg => setRow_other _ _ _ _ (by omega))) O.max, below_setRow hb3 hle2⟩
end Go.Proofs.YtccmncecpmemaaaGreatDoor
/- Two runs of a block, where none is made. -/
namespace Go.Proofs.YtccmncecpmemaaaGreatDoor
open Go.RowKit
set_option linter.unusedVariables false
set_option linter.unusedSimpArgs false
set_option maxRecDepth 8000

theorem rel_load25 {E : List PanicEntry → World → Prop} {w : World} {pc words el : Int} {u : Value} {o : Oper} {a : Act} {x : Operand} {b : Nat} (hr : w.heap[b]? = some (.cells (blA pc words el u) 25)) (ho : o.op = .load 25 x := by rfl) (hx : a.eval x = ptr b 0 := by rfl) : RelQ.relUpon Tryz.prog RelQ.Grows E (fun v _ => v = blV pc words el u) w ((execOp a.eval o).run Tryz.prog w) := by
  have h := run_loadVar_row w b 25 25 (blA pc words el u) (0, 0) _ hr Tryz.underlying25 rfl (bl_inf _ _ _ _)
  unfold execOp
  simp only [ho, hx, Instr.loadAt, Instr.sureAddr, Sem.run_bind, Sem.run_pure, Result.andThen_ok, h]
  exact ⟨RelQ.grows_refl _, rfl⟩
section
variable {w : World} {pc words el : Int} {v : Value} {l : List Opr} {c : Cor}
theorem newY_c (hpc : 0 ≤ pc) (O : Ops w v l) (himm : ∀ k, 0 ≤ (opAt l k).imm) (hcap : ∀ ao n cap, v = .slice ao n cap → n ≤ cap) (hc : CorOk c) (hE : newE pc words el l c = 0) : Calls Tryz.prog 18 #[blV pc words el v, c.val] w fun e w' => ∃ p, e = .returned (.tuple #[p, vI 0]) ∧ Fresh l (newS l.length c) w.heap.size p w' ∧ Below w.heap.size w w' := by
  refine (new_c hpc O himm hcap hc).mono ?_
  rintro e w' ⟨hb, ⟨h, _⟩ | ⟨_, u, rfl, F⟩⟩
  · exact absurd hE h
  · exact ⟨u, rfl, F, hb⟩
theorem newN_c {E : Int} (hpc : 0 ≤ pc) (O : Ops w v l) (himm : ∀ k, 0 ≤ (opAt l k).imm) (hcap : ∀ ao n cap, v = .slice ao n cap → n ≤ cap) (hc : CorOk c) (hE : newE pc words el l c = E) (h0 : E ≠ 0) : Calls Tryz.prog 18 #[blV pc words el v, c.val] w fun e w' => e = .returned (.tuple #[.pointer none, vI E]) ∧ Below w.heap.size w w' := by
  refine (new_c hpc O himm hcap hc).mono ?_
  rintro e w' ⟨hb, ⟨h, he⟩ | ⟨h, _⟩⟩
  · rw [hE] at he; exact ⟨he, hb⟩
  · exact absurd (hE.symm.trans h) h0
theorem newE_or : newE pc words el l c = 0 ∨ newE pc words el l c = 1 ∨ newE pc words el l c = 4 := by
  unfold newE
  split
  · split <;> simp
  · simp
theorem new_fit (himm : ∀ k, U64 (opAt l k).imm) (hE : newE pc words el l c = 0) : ∀ k, k < l.length → OpFit l (opAt l k) := by
  have hR : rightB pc words el l = true := by
    cases h : rightB pc words el l with
    | true => rfl
    | false => unfold newE at hE; rw [h] at hE; simp at hE
  unfold rightB at hR
  rw [Bool.and_eq_true] at hR
  exact fit_of hR.2 himm
/-- While the second run is made. -/
structure TwI (w : World) (pc words el : Int) (v : Value) (l : List Opr) (c : Cor) (b1 b2 n1 g1 vb1 : Nat) (so1 : Value) (x : World) : Prop where
  n : NwC w pc words el v l c b1 b2 x
  r1 : RunAt l g1 vb1 so1 (newS l.length c) x
  size : n1 ≤ x.heap.size
theorem TwI.grow {b1 b2 n1 g1 vb1 : Nat} {so1 : Value} {x y : World} (h : TwI w pc words el v l c b1 b2 n1 g1 vb1 so1 x) (hb : Below x.heap.size x y) : TwI w pc words el v l c b1 b2 n1 g1 vb1 so1 y := ⟨h.n.grow hb, h.r1.grow hb, Nat.le_trans h.size hb.size⟩

set_option maxHeartbeats 4000000 in
set_option maxHeartbeats 4000000 in
end
end Go.Proofs.YtccmncecpmemaaaGreatDoor
/- What is wanted, and of which operation. -/
namespace Go.Proofs.YtccmncecpmemaaaGreatDoor
open Go.RowKit
set_option linter.unusedVariables false
set_option linter.unusedSimpArgs false
set_option maxRecDepth 8000

/-- A want is its operation's. -/
def WantOf (o : Opr) (d : Wnt) : Prop := ((d.kind = 1 ∧ o.kind = 9) ∨ (d.kind = 2 ∧ o.kind = 10) ∨ (d.kind = 3 ∧ o.kind = 11) ∨ (d.kind = 4 ∧ o.kind = 12) ∨ (d.kind = 6 ∧ o.kind = 13)) ∧ d.addr % 8 = 0
theorem step_want {l : List Opr} {S : Rn} (h0 : S.go = 0) : (stepV l S).go ≠ 0 → (stepV l S).next = S.next + 1 ∧ WantOf (opAt l S.next) (stepV l S).w := by
  unfold stepV carryV WantOf
  generalize opAt l S.next = o
  split
  · exact fun h => absurd h0 h
  · exact fun h => absurd h0 h
  · exact fun h => absurd h0 h
  · exact fun h => absurd h0 h
  · unfold Rn.setSP
    split
    · exact fun h => absurd h0 h
    · exact fun h => absurd h0 h
  · exact fun h => absurd h0 h
  · unfold Rn.setF
    split
    · exact fun h => absurd h0 h
    · split
      · exact fun h => absurd h0 h
      · split
        · exact fun h => absurd h0 h
        · exact fun h => absurd h0 h
  · exact fun h => absurd h0 h
  · rename_i hk
    unfold Rn.acc
    split
    · rename_i h8
      exact fun _ => ⟨rfl, by (first | exact .inl ⟨rfl, by omega⟩ | exact .inr (.inl ⟨rfl, by omega⟩) | exact .inr (.inr (.inl ⟨rfl, by omega⟩)) | exact .inr (.inr (.inr (.inl ⟨rfl, by omega⟩))) | exact .inr (.inr (.inr (.inr ⟨rfl, by omega⟩)))), h8⟩
    · exact fun h => absurd h0 h
  · rename_i hk
    unfold Rn.acc
    split
    · rename_i h8
      exact fun _ => ⟨rfl, by (first | exact .inl ⟨rfl, by omega⟩ | exact .inr (.inl ⟨rfl, by omega⟩) | exact .inr (.inr (.inl ⟨rfl, by omega⟩)) | exact .inr (.inr (.inr (.inl ⟨rfl, by omega⟩))) | exact .inr (.inr (.inr (.inr ⟨rfl, by omega⟩)))), h8⟩
    · exact fun h => absurd h0 h
  · rename_i hk
    unfold Rn.acc
    split
    · rename_i h8
      exact fun _ => ⟨rfl, by (first | exact .inl ⟨rfl, by omega⟩ | exact .inr (.inl ⟨rfl, by omega⟩) | exact .inr (.inr (.inl ⟨rfl, by omega⟩)) | exact .inr (.inr (.inr (.inl ⟨rfl, by omega⟩))) | exact .inr (.inr (.inr (.inr ⟨rfl, by omega⟩)))), h8⟩
    · exact fun h => absurd h0 h
  · rename_i hk
    unfold Rn.acc
    split
    · rename_i h8
      exact fun _ => ⟨rfl, by (first | exact .inl ⟨rfl, by omega⟩ | exact .inr (.inl ⟨rfl, by omega⟩) | exact .inr (.inr (.inl ⟨rfl, by omega⟩)) | exact .inr (.inr (.inr (.inl ⟨rfl, by omega⟩))) | exact .inr (.inr (.inr (.inr ⟨rfl, by omega⟩)))), h8⟩
    · exact fun h => absurd h0 h
  · rename_i hk
    exact fun _ => ⟨rfl, by (first | exact .inl ⟨rfl, by omega⟩ | exact .inr (.inl ⟨rfl, by omega⟩) | exact .inr (.inr (.inl ⟨rfl, by omega⟩)) | exact .inr (.inr (.inr (.inl ⟨rfl, by omega⟩))) | exact .inr (.inr (.inr (.inr ⟨rfl, by omega⟩)))), rfl⟩
  · exact fun h => absurd h0 h
  · split
    · exact fun h => absurd h0 h
    · exact fun h => absurd h0 h
  · exact fun h => absurd h0 h
  · exact fun h => absurd h0 h
  · exact fun h => absurd h0 h
  · exact fun h => absurd h0 h

theorem runs_want {l : List Opr} : ∀ (f : Nat) (S : Rn), S.go = 0 → S.next ≤ l.length → (runN l f S).go ≠ 0 → ∃ j, S.next ≤ j ∧ j < l.length ∧ (runN l f S).next = j + 1 ∧ WantOf (opAt l j) (runN l f S).w
  | 0, S, h0, _ => fun h => absurd h0 h
  | f + 1, S, h0, hl => by
    unfold runN
    split
    · rename_i hc
      have hs := step_next hc.2
      by_cases hg : (stepV l S).go = 0
      · intro h
        obtain ⟨j, h1, h2, h3, h4⟩ := runs_want f _ hg hs.2 h
        exact ⟨j, by omega, h2, h3, h4⟩
      · rw [runN_stop (fun h => hg h.1)]
        intro h
        obtain ⟨h1, h2⟩ := step_want h0 h
        exact ⟨S.next, Nat.le_refl _, hc.2, h1, h2⟩
    · exact fun h => absurd h0 h
theorem next_want {l : List Opr} {S : Rn} (h0 : S.go = 0) (hl : S.next ≤ l.length) (h : (nextV l S).go ≠ 0) : ∃ j, S.next ≤ j ∧ j < l.length ∧ (nextV l S).next = j + 1 ∧ WantOf (opAt l j) (nextV l S).w := runs_want _ _ h0 hl h
theorem take_go {n : Nat} {S : Rn} (h : S.go ≤ 4) (t : Gt) : (takeV n S t).go = 0 := by
  unfold takeV
  split
  · rename_i e; exact e
  · unfold Rn.told; split <;> rfl
  · unfold Rn.told; split <;> rfl
  · unfold Rn.told; split <;> rfl
  · rfl
theorem told_next {n : Nat} {S : Rn} (t : Gt) (h : S.next ≤ n) : S.next ≤ (S.told n t).next := by
  unfold Rn.told; split
  · exact Nat.le_refl _
  · exact h
theorem take_next {n : Nat} {S : Rn} (t : Gt) (h : S.next ≤ n) : S.next ≤ (takeV n S t).next := by
  unfold takeV
  split
  · exact Nat.le_refl _
  · exact told_next (S := (S.wait nilW 0).define t.value) t h
  · exact told_next (S := S.wait nilW 0) t h
  · exact told_next (S := (S.wait nilW 0).define (oneV (!t.ok))) t h
  · exact Nat.le_refl _
end Go.Proofs.YtccmncecpmemaaaGreatDoor
/- Two runs side by side, and what holds of them: plain. -/
namespace Go.Proofs.YtccmncecpmemaaaGreatDoor
open Go.RowKit
set_option linter.unusedVariables false
set_option linter.unusedSimpArgs false
set_option maxRecDepth 8000

theorem new_fits {pc words el : Int} {l : List Opr} {c : Cor} (himm : ∀ k, U64 (opAt l k).imm) (hE : newE pc words el l c = 0) : (∀ k, k < l.length → OpFits l (opAt l k)) ∧ (∀ k, k < l.length → isK (opAt l k).kind = true ∧ (hasP (opAt l k).kind 128 = true ↔ k + 1 = l.length)) := by
  have hR : rightB pc words el l = true := by
    cases h : rightB pc words el l with
    | true => rfl
    | false => unfold newE at hE; rw [h] at hE; simp at hE
  have fit := new_fit (words := words) (c := c) (pc := pc) (el := el) himm hE
  unfold rightB at hR
  rw [Bool.and_eq_true] at hR
  constructor
  · intro k hk
    have ho := ops_at hR.2 hk
    unfold okAt at ho
    simp only [Bool.and_eq_true] at ho
    have hab := opB_ab ho.1.2
    have F := fit k hk
    refine ⟨F, ?_, ?_⟩
    · cases h : hasP (opAt l k).kind 2 with
      | true => exact F.a h
      | false => rw [hab.1 h]; omega
    · cases h : hasP (opAt l k).kind 4 with
      | true => exact F.b h
      | false => rw [hab.2 h]; omega
  · intro k hk
    have ho := ops_at hR.2 hk
    unfold okAt at ho
    simp only [Bool.and_eq_true] at ho
    refine ⟨ho.1.1.1, ?_⟩
    have := ho.1.1.2
    rw [beq_iff_eq] at this
    rw [this, decide_eq_true_eq]
def W32 (n : Int) : Prop := 0 ≤ n ∧ n < 4294967296
theorem carry_word {n : Nat} {S : Rn} {l : List Opr} {o : Opr} (hS : W32 S.word) (fit : OpFit l o) : W32 (carryV n S o).word := by
  obtain ⟨kind, r, a, b, order, imm⟩ := o
  have hk := fit.k
  have hrg := fit.rng
  have hu := fit.imm
  clear fit
  dsimp only at hk hrg hu
  rcases isK_cases hk with rfl | rfl | rfl | rfl | rfl | rfl | rfl | rfl | rfl | rfl | rfl | rfl | rfl | rfl | rfl | rfl | rfl | rfl
  · exact hS
  · exact hS
  · exact hS
  · exact hS
  · show W32 (Rn.setSP _ _).word
    unfold Rn.setSP; split <;> exact hS
  · exact hS
  · show W32 (Rn.setF _ _ _).word
    unfold Rn.setF; split; exact hS; split; exact hS; split <;> exact hS
  · exact hS
  · show W32 (Rn.acc _ _ _ _ _).word
    unfold Rn.acc; split <;> exact hS
  · show W32 (Rn.acc _ _ _ _ _).word
    unfold Rn.acc; split <;> exact hS
  · show W32 (Rn.acc _ _ _ _ _).word
    unfold Rn.acc; split <;> exact hS
  · show W32 (Rn.acc _ _ _ _ _).word
    unfold Rn.acc; split <;> exact hS
  · exact hS
  · exact hS
  · show W32 (if (Rn.val _ _ != 0) = true then _ else _ : Rn).word
    split <;> exact hS
  · exact hS
  · exact hS
  · simp [rangeB] at hrg
    exact ⟨hu.1, hrg⟩
theorem runs_word {l : List Opr} (fits : ∀ k, k < l.length → OpFit l (opAt l k)) : ∀ (f : Nat) (S : Rn), W32 S.word → W32 (runN l f S).word
  | 0, S, h => h
  | f + 1, S, h => by
    unfold runN
    split
    · rename_i hc
      exact runs_word fits f _ (carry_word (S := { S with next := S.next + 1 }) h (fits _ hc.2))
    · exact h
theorem take_word {n : Nat} {S : Rn} (h : W32 S.word) (t : Gt) : W32 (takeV n S t).word := by
  unfold takeV
  split
  · exact h
  · unfold Rn.told; split <;> exact h
  · unfold Rn.told; split <;> exact h
  · unfold Rn.told; split <;> exact h
  · exact h
theorem wof_zero {l : List Opr} {S : Rn} (h : S.go = 0) : WOf l S := ⟨fun e => absurd h e, fun e => by omega, fun e => by omega, fun e => by omega, fun e => absurd h e, by omega⟩
theorem step_wof {l : List Opr} {S : Rn} (h0 : S.go = 0) (hlt : S.next < l.length) (hk : isK (opAt l S.next).kind = true) : WOf l (stepV l S) := by
  unfold stepV
  have hat : ∀ T : Rn, T.next = S.next + 1 → opAt l (T.next - 1) = opAt l S.next := fun T hT => by rw [hT, Nat.add_sub_cancel]
  generalize ho : opAt l S.next = o at *
  obtain ⟨kind, r, a, b, order, imm⟩ := o
  dsimp only at hk
  rcases isK_cases hk with rfl | rfl | rfl | rfl | rfl | rfl | rfl | rfl | rfl | rfl | rfl | rfl | rfl | rfl | rfl | rfl | rfl | rfl
  · exact wof_zero h0
  · exact wof_zero h0
  · exact wof_zero h0
  · exact wof_zero h0
  · refine wof_zero ?_
    show (Rn.setSP _ _).go = 0
    unfold Rn.setSP; split <;> exact h0
  · exact wof_zero h0
  · refine wof_zero ?_
    show (Rn.setF _ _ _).go = 0
    unfold Rn.setF; split; exact h0; split; exact h0; split <;> exact h0
  · exact wof_zero h0
  · show WOf l (Rn.acc _ _ _ _ _)
    unfold Rn.acc
    split
    · generalize hTT : Rn.wait _ _ _ = T
      have hT : T.next = S.next + 1 := by rw [← hTT]; rfl
      have hg : T.go = 1 := by rw [← hTT]; rfl
      have e := hat T hT
      refine ⟨fun _ => ⟨by omega, by omega, ?_⟩, fun h => ?_, fun h => ?_, fun h => ?_, fun h1 h2 h3 h4 => ?_, by omega⟩
      · rw [e]; exact hp9_128
      · first | (exfalso; omega) | (rw [e]; exact .inl rfl) | (rw [e]; exact .inr rfl)
      · first | (exfalso; omega) | (rw [e]; done) | (rw [e]; rfl)
      · first | (exfalso; omega) | (rw [e]; done) | (rw [e]; rfl)
      · first | (exfalso; omega) | (rw [e]; done) | (rw [e]; rfl)
    · exact wof_zero h0
  · show WOf l (Rn.acc _ _ _ _ _)
    unfold Rn.acc
    split
    · generalize hTT : Rn.wait _ _ _ = T
      have hT : T.next = S.next + 1 := by rw [← hTT]; rfl
      have hg : T.go = 2 := by rw [← hTT]; rfl
      have e := hat T hT
      refine ⟨fun _ => ⟨by omega, by omega, ?_⟩, fun h => ?_, fun h => ?_, fun h => ?_, fun h1 h2 h3 h4 => ?_, by omega⟩
      · rw [e]; exact hp10_128
      · first | (exfalso; omega) | (rw [e]; exact .inl rfl) | (rw [e]; exact .inr rfl)
      · first | (exfalso; omega) | (rw [e]; done) | (rw [e]; rfl)
      · first | (exfalso; omega) | (rw [e]; done) | (rw [e]; rfl)
      · first | (exfalso; omega) | (rw [e]; done) | (rw [e]; rfl)
    · exact wof_zero h0
  · show WOf l (Rn.acc _ _ _ _ _)
    unfold Rn.acc
    split
    · generalize hTT : Rn.wait _ _ _ = T
      have hT : T.next = S.next + 1 := by rw [← hTT]; rfl
      have hg : T.go = 1 := by rw [← hTT]; rfl
      have e := hat T hT
      refine ⟨fun _ => ⟨by omega, by omega, ?_⟩, fun h => ?_, fun h => ?_, fun h => ?_, fun h1 h2 h3 h4 => ?_, by omega⟩
      · rw [e]; exact hp11_128
      · first | (exfalso; omega) | (rw [e]; exact .inl rfl) | (rw [e]; exact .inr rfl)
      · first | (exfalso; omega) | (rw [e]; done) | (rw [e]; rfl)
      · first | (exfalso; omega) | (rw [e]; done) | (rw [e]; rfl)
      · first | (exfalso; omega) | (rw [e]; done) | (rw [e]; rfl)
    · exact wof_zero h0
  · show WOf l (Rn.acc _ _ _ _ _)
    unfold Rn.acc
    split
    · generalize hTT : Rn.wait _ _ _ = T
      have hT : T.next = S.next + 1 := by rw [← hTT]; rfl
      have hg : T.go = 3 := by rw [← hTT]; rfl
      have e := hat T hT
      refine ⟨fun _ => ⟨by omega, by omega, ?_⟩, fun h => ?_, fun h => ?_, fun h => ?_, fun h1 h2 h3 h4 => ?_, by omega⟩
      · rw [e]; exact hp12_128
      · first | (exfalso; omega) | (rw [e]; exact .inl rfl) | (rw [e]; exact .inr rfl)
      · first | (exfalso; omega) | (rw [e]; done) | (rw [e]; rfl)
      · first | (exfalso; omega) | (rw [e]; done) | (rw [e]; rfl)
      · first | (exfalso; omega) | (rw [e]; done) | (rw [e]; rfl)
    · exact wof_zero h0
  · generalize hTT : carryV l.length { S with next := S.next + 1 } ⟨13, r, a, b, order, imm⟩ = T
    have hT : T.next = S.next + 1 := by rw [← hTT]; rfl
    have hg : T.go = 4 := by rw [← hTT]; rfl
    have e := hat T hT
    refine ⟨fun _ => ⟨by omega, by omega, ?_⟩, fun h => ?_, fun h => ?_, fun h => ?_, fun h1 h2 h3 h4 => ?_, by omega⟩
    · rw [e]; exact hp13_128
    · first | (exfalso; omega) | (rw [e]; exact .inl rfl) | (rw [e]; exact .inr rfl)
    · first | (exfalso; omega) | (rw [e]; done) | (rw [e]; rfl)
    · first | (exfalso; omega) | (rw [e]; done) | (rw [e]; rfl)
    · first | (exfalso; omega) | (rw [e]; done) | (rw [e]; rfl)
  · exact wof_zero h0
  · refine wof_zero ?_
    show (if (Rn.val _ _ != 0) = true then _ else _ : Rn).go = 0
    split <;> exact h0
  · exact wof_zero h0
  · exact wof_zero h0
  · exact wof_zero h0
theorem runs_wof {l : List Opr} (hk : ∀ k, k < l.length → isK (opAt l k).kind = true) : ∀ (f : Nat) (S : Rn), WOf l S → WOf l (runN l f S)
  | 0, S, h => h
  | f + 1, S, h => by
    unfold runN
    split
    · rename_i hc
      exact runs_wof hk f _ (step_wof hc.1 hc.2 (hk _ hc.2))
    · exact h
theorem next_wof {l : List Opr} (hk : ∀ k, k < l.length → isK (opAt l k).kind = true) {S : Rn} (h : S.go = 0) : WOf l (nextV l S) := runs_wof hk _ _ (wof_zero h)
theorem next_end {l : List Opr} {S : Rn} (h : S.next ≤ l.length) : nextV l (nextV l S) = nextV l S := runN_stop (run_end l.length S h (by omega))
theorem lk_din {l : List Opr} {S : Rn} {D : Dn} (h : Lk l.length S D) (hg : S.go = 0) : DIn l D := fun hl => by
  rw [(h.run hl).1]; exact (h.inn hl).2 hg
/-- A run of the program's and one of the document's, side by side. -/
structure Both (pc words el : Int) (v : Value) (l : List Opr) (g1 vb1 : Nat) (so1 : Value) (g2 vb2 : Nat) (S : Rn) (D : Dn) (x : World) : Prop where
  r : RunAt l g1 vb1 so1 S x
  d : DocAt pc words el v l g2 vb2 D x
  vv : vb1 ≠ vb2
  f1 : ∀ ra n cap, v = .slice (some ra) n cap → ra.block ≠ g1 ∧ ra.block ≠ vb1
section
variable {pc words el : Int} {v : Value} {l : List Opr} {g1 vb1 g2 vb2 : Nat} {so1 : Value} {S S' : Rn} {D D' : Dn} {x y : World}
theorem Both.grow (h : Both pc words el v l g1 vb1 so1 g2 vb2 S D x) (hb : Below x.heap.size x y) : Both pc words el v l g1 vb1 so1 g2 vb2 S D y := ⟨h.r.grow hb, h.d.grow hb, h.vv, h.f1⟩
theorem Both.one (h : Both pc words el v l g1 vb1 so1 g2 vb2 S D x) (R : RT l g1 vb1 so1 S' x y) : Both pc words el v l g1 vb1 so1 g2 vb2 S' D y := by
  refine ⟨R.1, h.d.keep R.2.size (R.2.block _ h.d.lt ?_) (R.2.block _ h.d.ltv ?_) (fun ra n cap e hk => R.2.block _ hk (fun q => by have := h.f1 ra n cap e; rcases q with q | q; exact this.1 q; exact this.2 q)), h.vv, h.f1⟩
  · rintro (q | q)
    · exact ne_of_type h.d.top h.r.top (by decide) q
    · exact ne_of_type h.d.top h.r.vals (by decide) q
  · rintro (q | q)
    · exact ne_of_type h.d.vals h.r.top (by decide) q
    · exact h.vv q.symm
theorem Both.two (h : Both pc words el v l g1 vb1 so1 g2 vb2 S D x) (R : DT pc words el v l g2 vb2 D' x y) : Both pc words el v l g1 vb1 so1 g2 vb2 S D' y := by
  refine ⟨h.r.keep (R.2.block _ h.r.lt ?_) (R.2.block _ h.r.ltv ?_) (fun k hk => R.2.block _ (h.r.ob hk).1 ?_), R.1, h.vv, h.f1⟩
  · rintro (q | q)
    · exact ne_of_type h.r.top h.d.top (by decide) q
    · exact ne_of_type h.r.top h.d.vals (by decide) q
  · rintro (q | q)
    · exact ne_of_type h.r.vals h.d.top (by decide) q
    · exact h.vv q
  · rintro (q | q)
    · exact own_ne h.d.top h.r.own (by decide) (q ▸ hk)
    · exact own_ne h.d.vals h.r.own (by decide) (q ▸ hk)
/-- A block of one's own laid anew. -/
theorem Both.row (h : Both pc words el v l g1 vb1 so1 g2 vb2 S D x) {t : Nat} {d : Array Value} (n1 : g1 ≠ t) (n2 : vb1 ≠ t) (n3 : so1.ownBlock ≠ some t) (n4 : g2 ≠ t) (n5 : vb2 ≠ t) (n6 : ∀ ra n cap, v = .slice (some ra) n cap → ra.block ≠ t) : Both pc words el v l g1 vb1 so1 g2 vb2 S D (x.setRow t d) :=
  ⟨h.r.keep (setRow_other _ _ _ _ n1) (setRow_other _ _ _ _ n2) (fun k hk => setRow_other _ _ _ _ (fun e => n3 (e ▸ hk))), h.d.keep (by simp) (setRow_other _ _ _ _ n4) (setRow_other _ _ _ _ n5) (fun ra n cap e _ => setRow_other _ _ _ _ (n6 ra n cap e)), h.vv, h.f1⟩
end
end Go.Proofs.YtccmncecpmemaaaGreatDoor
/- A copy of a block, as its owner has it. -/
namespace Go.Proofs.YtccmncecpmemaaaGreatDoor
open Go.RowKit
set_option linter.unusedVariables false
set_option linter.unusedSimpArgs false
set_option maxRecDepth 8000

set_option maxHeartbeats 2000000 in
theorem copied_o {w : World} {pc words el : Int} {v : Value} {l : List Opr} (O : Ops w v l) (hl : l.length * 48 ≤ 140737488351232) : Calls Tryz.prog 16 #[blV pc words el v] w fun e w' => ∃ v', e = .returned (blV pc words el v') ∧ w'.ownsRow w.heap.size 27 6 v' l.length (opF l) ∧ Below w.heap.size w w' := by
  have hb := below_alloc w (.cells (blA pc words el v) 25)
  have hb2 := below_then hb (Nat.le_refl _) (below_alloc (w.alloc (.cells (blA pc words el v) 25)) (.cells (blA 0 0 0 (.slice none 0 0)) 25))
  have r1 : ((w.alloc (.cells (blA pc words el v) 25)).alloc (.cells (blA 0 0 0 (.slice none 0 0)) 25)).heap[w.heap.size]? = some (.cells (blA pc words el v) 25) := by
    rw [Below.heap_alloc _ _ _ (by simp)]; exact heap_alloc_new _ _
  have r2 : ((w.alloc (.cells (blA pc words el v) 25)).alloc (.cells (blA 0 0 0 (.slice none 0 0)) 25)).heap[w.heap.size + 1]? = some (.cells (blA 0 0 0 (.slice none 0 0)) 25) := by
    have := heap_alloc_new (w.alloc (.cells (blA pc words el v) 25)) (.cells (blA 0 0 0 (.slice none 0 0)) 25)
    rw [World.size_alloc] at this; exact this
  have O1 := O.grow hb2
  obtain ⟨ao, cap, ev⟩ := O.len
  subst ev
  go_enter Tryz.func16, Tryz.ntmps16
  go_upto_region 1 with fail
  generalize (w.alloc (.cells (blA pc words el (.slice ao l.length cap)) 25)).alloc (.cells (blA 0 0 0 (.slice none 0 0)) 25) = w1 at *
  have hne : w.heap.size ≠ w.heap.size + 1 := by omega
  generalize hq2 : w.heap.size + 1 = b2 at r2 hne ⊢
  have hle2 : w.heap.size ≤ b2 := by omega
  clear hq2
  have z3 : w1.cell? ⟨w.heap.size, 3, none⟩ = some (.slice ao l.length cap) := by rw [cell_of_row _ _ _ _ _ _ r1]; rfl
  go_upto_region 2 with (first | (at_builtin; (refine wpList_copy rfl _ _ rfl rfl rfl O1 hl ?_); intro v' w2 q1 q2; obtain ⟨ao', cap', ev'⟩ := (opsC_of q1 O1.max).ops.len; subst ev'; simp only [Act.put, List.setIfInBounds_toArray, List.set_cons_succ, List.set_cons_zero]; have r1' := keepRow r1 q2; have r2' := keepRow r2 q2; have z3' : w2.cell? ⟨w.heap.size, 3, none⟩ = some (.slice ao l.length cap) := (by rw [cell_of_row _ _ _ _ _ _ r1']; rfl); have f3 : w2.frozen? ⟨w.heap.size, 3, none⟩ = false := frozen_of_row _ _ _ _ _ r1'))
  have r3 := heap_setCell_same w2 w.heap.size 3 _ 25 (.slice ao' l.length cap') r1'
  rw [bl_set3] at r3
  have r4 : (w2.setCell ⟨w.heap.size, 3, none⟩ (.slice ao' l.length cap')).heap[b2]? = some (.cells (blA 0 0 0 (.slice none 0 0)) 25) := by
    rw [heap_setCell_other _ _ _ _ (Ne.symm hne)]; exact r2'
  have hlt1 : w.heap.size < w1.heap.size := lt_of_some r1
  have hlt2 : b2 < w1.heap.size := lt_of_some r2
  have q3 : (w2.setCell ⟨w.heap.size, 3, none⟩ (.slice ao' l.length cap')).ownsRow w1.heap.size 27 6 (.slice ao' l.length cap') l.length (opF l) := own_of q1 (fun g hg => heap_setCell_other _ _ _ _ (by show g ≠ w.heap.size; omega))
  have hb3 : Below w.heap.size w (w2.setCell ⟨w.heap.size, 3, none⟩ (.slice ao' l.length cap')) := below_cell (below_then hb2 (Nat.le_refl _) q2) (Nat.le_refl _)
  generalize w2.setCell ⟨w.heap.size, 3, none⟩ (.slice ao' l.length cap') = w3 at *
  go_wp2_with (first | ((with_reducible refine wpList_load_if rfl 25 _ rfl _ rfl 25 _ (0, 0) _ r3 Tryz.underlying25 rfl (bl_inf _ _ _ _) ?_); simp only [Act.put, List.setIfInBounds_toArray, List.set_cons_succ, List.set_cons_zero]) | ((with_reducible refine wpList_store_row rfl 25 _ _ rfl b2 (blA pc words el (.slice ao' l.length cap')) rfl rfl 25 _ r4 (bl_inf _ _ _ _) rfl (blk_one _ _ _ _ rfl) ?_); try simp only [Act.put]))
  refine bodyPost_ret (back25 rfl _ _ b2 rfl (setRow_heap _ _ _ _ _ _ r4)) rfl ?_
  exact ⟨_, rfl, own_mono (own_of q3 (fun g hg => setRow_other _ _ _ _ (by omega))) hb2.size, below_setRow hb3 hle2⟩
end Go.Proofs.YtccmncecpmemaaaGreatDoor
/- What the walk of two runs stands on. -/
namespace Go.Proofs.YtccmncecpmemaaaGreatDoor
open Go.RowKit
set_option linter.unusedVariables false
set_option linter.unusedSimpArgs false
set_option maxRecDepth 8000

theorem rel_neqW {E : List PanicEntry → World → Prop} {w : World} {d : Wnt} {o : Oper} {a : Act} {x y : Operand} (ho : o.op = .binOp .neq 56 x y 56 := by rfl) (hx : a.eval x = wnV d := by rfl) (hy : a.eval y = wnV d := by rfl) : RelQ.relUpon Tryz.prog RelQ.Grows E (fun u _ => u = .bool false) w ((execOp a.eval o).run Tryz.prog w) := by
  have he := want_eq d d w
  rw [show decide (d = d) = true by simp] at he
  unfold execOp
  simp only [ho, hx, hy, Sem.run_bind, run_eqGuard_agg w _ _ _ _ _ _ guard38, Result.andThen_ok, run_neq_struct, he, Sem.run_pure]
  exact ⟨RelQ.grows_refl _, rfl⟩
theorem rel_neqC {E : List PanicEntry → World → Prop} {w : World} {c : Cor} {o : Oper} {a : Act} {x y : Operand} (ho : o.op = .binOp .neq 42 x y 42 := by rfl) (hx : a.eval x = c.val := by rfl) (hy : a.eval y = c.val := by rfl) : RelQ.relUpon Tryz.prog RelQ.Grows E (fun u _ => u = .bool false) w ((execOp a.eval o).run Tryz.prog w) := by
  have he := core_eq c c w
  rw [eqC_refl] at he
  unfold execOp
  simp only [ho, hx, hy, Sem.run_bind, run_eqGuard_agg w _ _ _ _ _ _ guard29, Result.andThen_ok, run_neq_struct, he, Sem.run_pure]
  exact ⟨RelQ.grows_refl _, rfl⟩
theorem rel_loadW {E : List PanicEntry → World → Prop} {w : World} {d : Wnt} {o : Oper} {a : Act} {x : Operand} {b : Nat} (hr : w.heap[b]? = some (.cells (wnA d) 56)) (ho : o.op = .load 56 x := by rfl) (hx : a.eval x = ptr b 0 := by rfl) : RelQ.relUpon Tryz.prog RelQ.Grows E (fun u _ => u = wnV d) w ((execOp a.eval o).run Tryz.prog w) := by
  have h := run_loadVar_row w b 56 56 (wnA d) (0, 0) _ hr Tryz.underlying56 rfl (wn_inf _)
  unfold execOp
  simp only [ho, hx, Instr.loadAt, Instr.sureAddr, Sem.run_bind, Sem.run_pure, Result.andThen_ok, h]
  exact ⟨RelQ.grows_refl _, rfl⟩
section
variable {w : World} {pc words el : Int} {v : Value} {l : List Opr} {g1 vb1 g2 vb2 : Nat} {so1 : Value} {S S' : Rn} {D D' : Dn} {x y : World}
theorem rel_loadCD {E : List PanicEntry → World → Prop} {o : Oper} {a : Act} {p : Operand} (H : DocAt pc words el v l g2 vb2 D w) (ho : o.op = .load 42 p := by rfl) (hx : a.eval p = ptr g2 4 := by rfl) : RelQ.relUpon Tryz.prog RelQ.Grows E (fun u _ => u = D.c.val) w ((execOp a.eval o).run Tryz.prog w) := by
  unfold execOp
  simp only [ho, hx, Instr.loadAt, Instr.sureAddr, Sem.run_bind, Sem.run_pure, Result.andThen_ok, run_load_coreD H]
  exact ⟨RelQ.grows_refl _, rfl⟩
set_option maxHeartbeats 2000000 in
theorem take_0b (H : RunAt l g1 vb1 so1 S w) (hg : S.go = 0) (t : Gt) : Calls Tryz.prog 20 #[ptr g1 0, gtV t] w fun e w' => e = .returned (vI 1) ∧ Below w.heap.size w w' := by
  have hb := below_alloc w (.cells (gtA t) 54)
  have R : RT l g1 vb1 so1 S w (w.alloc (.cells (gtA t) 54)) := RT.from hb (H.grow hb).here
  have z := R.1.c62
  rw [hg] at z
  rw [show goV g1 0 = .nilFunc from rfl] at z
  have hrun : ∀ w, Sem.run Tryz.prog (binOp BinOp.eql 93 Value.nilFunc Value.nilFunc) w = .ok (.bool true) w := fun w => run_nilE g1 0 w
  go_enter Tryz.func20, Tryz.ntmps20
  go_upto_region 1 with fail
  generalize w.alloc (.cells (gtA t) 54) = w1 at *
  go_wp2
  go_ret
  exact ⟨rfl, hb⟩
/-- Two runs, and blocks of the law's own. -/
structure Cls (w : World) (pc words el : Int) (v : Value) (l : List Opr) (g1 vb1 : Nat) (so1 : Value) (g2 vb2 : Nat) (S : Rn) (D : Dn) (L : List (Nat × Array Value × TypeId)) (x : World) : Prop where
  both : Both pc words el v l g1 vb1 so1 g2 vb2 S D x
  rows : ∀ p ∈ L, x.heap[p.1]? = some (.cells p.2.1 p.2.2) ∧ p.2.2 ≠ 95 ∧ p.2.2 ≠ 22 ∧ p.2.2 ≠ 64
  below : Below w.heap.size w x
  n1 : w.heap.size ≤ g1
  n2 : w.heap.size ≤ vb1
  n3 : w.heap.size ≤ g2
  n4 : w.heap.size ≤ vb2
  nv : ∀ ra n cap, v = .slice (some ra) n cap → ra.block < w.heap.size
variable {L : List (Nat × Array Value × TypeId)}
theorem Cls.grow (h : Cls w pc words el v l g1 vb1 so1 g2 vb2 S D L x) (hb : Below x.heap.size x y) : Cls w pc words el v l g1 vb1 so1 g2 vb2 S D L y :=
  ⟨h.both.grow hb, fun p hp => ⟨keepRow (h.rows p hp).1 hb, (h.rows p hp).2⟩, below_then h.below (Nat.le_refl _) hb, h.n1, h.n2, h.n3, h.n4, h.nv⟩
theorem Cls.one (h : Cls w pc words el v l g1 vb1 so1 g2 vb2 S D L x) (R : RT l g1 vb1 so1 S' x y) : Cls w pc words el v l g1 vb1 so1 g2 vb2 S' D L y :=
  ⟨h.both.one R, fun p hp => ⟨R.kept (h.rows p hp).1 (ne_of_type (h.rows p hp).1 h.both.r.top (h.rows p hp).2.1) (ne_of_type (h.rows p hp).1 h.both.r.vals (h.rows p hp).2.2.1), (h.rows p hp).2⟩, R.low h.below h.n1 h.n2, h.n1, h.n2, h.n3, h.n4, h.nv⟩
theorem Cls.two (h : Cls w pc words el v l g1 vb1 so1 g2 vb2 S D L x) (R : DT pc words el v l g2 vb2 D' x y) : Cls w pc words el v l g1 vb1 so1 g2 vb2 S D' L y :=
  ⟨h.both.two R, fun p hp => ⟨R.kept (h.rows p hp).1 (ne_of_type (h.rows p hp).1 h.both.d.top (h.rows p hp).2.2.2) (ne_of_type (h.rows p hp).1 h.both.d.vals (h.rows p hp).2.2.1), (h.rows p hp).2⟩, h.below.trans (R.2.below h.below.size (fun k hk => by have := h.n3; have := h.n4; rcases hk with rfl | rfl <;> assumption)), h.n1, h.n2, h.n3, h.n4, h.nv⟩
theorem Cls.get (h : Cls w pc words el v l g1 vb1 so1 g2 vb2 S D L x) {b : Nat} {Z : Array Value} {t : TypeId} (hp : (b, Z, t) ∈ L) : x.heap[b]? = some (.cells Z t) := (h.rows _ hp).1
theorem Cls.lt (h : Cls w pc words el v l g1 vb1 so1 g2 vb2 S D L x) {b : Nat} {Z : Array Value} {t : TypeId} (hp : (b, Z, t) ∈ L) : b < x.heap.size := lt_of_some (h.get hp)
/-- A new block of the law's own. -/
theorem Cls.add (h : Cls w pc words el v l g1 vb1 so1 g2 vb2 S D L x) {b : Nat} {Z : Array Value} {t : TypeId} (H : Has x [(b, Z, t)] y) (ht : t ≠ 95 ∧ t ≠ 22 ∧ t ≠ 64) : Cls w pc words el v l g1 vb1 so1 g2 vb2 S D ((b, Z, t) :: L) y := by
  have g := h.grow H.below
  refine ⟨g.both, fun p hp => ?_, g.below, g.n1, g.n2, g.n3, g.n4, g.nv⟩
  rcases List.mem_cons.1 hp with rfl | hp
  · exact ⟨H.get List.mem_cons_self, ht⟩
  · exact g.rows p hp
theorem Cls.less (h : Cls w pc words el v l g1 vb1 so1 g2 vb2 S D L x) (M : List (Nat × Array Value × TypeId)) (hM : ∀ p ∈ M, p ∈ L) : Cls w pc words el v l g1 vb1 so1 g2 vb2 S D M x := ⟨h.both, fun p hp => h.rows p (hM p hp), h.below, h.n1, h.n2, h.n3, h.n4, h.nv⟩
/-- The law's own block laid anew. -/
theorem Cls.over {b : Nat} {Z Z' : Array Value} {t : TypeId} (h : Cls w pc words el v l g1 vb1 so1 g2 vb2 S D ((b, Z, t) :: L) x) (hn : so1.ownBlock ≠ some b) (hb : w.heap.size ≤ b) (hL : ∀ p ∈ L, p.1 ≠ b) : Cls w pc words el v l g1 vb1 so1 g2 vb2 S D ((b, Z', t) :: L) (x.setRow b Z') := by
  obtain ⟨h1, h2, h3, h4⟩ := h.rows _ List.mem_cons_self
  refine ⟨h.both.row (fun e => ne_of_type h.both.r.top h1 (Ne.symm h2) e) (fun e => ne_of_type h.both.r.vals h1 (Ne.symm h3) e) hn (fun e => ne_of_type h.both.d.top h1 (Ne.symm h4) e) (fun e => ne_of_type h.both.d.vals h1 (Ne.symm h3) e) (fun ra n cap e => by have := h.nv ra n cap e; omega), fun p hp => ?_, below_setRow h.below hb, h.n1, h.n2, h.n3, h.n4, h.nv⟩
  rcases List.mem_cons.1 hp with rfl | hp
  · exact ⟨setRow_heap _ _ _ _ _ _ h1, h2, h3, h4⟩
  · exact ⟨by rw [setRow_other _ _ _ _ (hL p hp)]; exact (h.rows p (List.mem_cons_of_mem _ hp)).1, (h.rows p (List.mem_cons_of_mem _ hp)).2⟩
end
/-- An operation laid into a row of operations. -/
theorem run_opRow {w : World} {b i K : Nat} {cur : Array Value} (o : Opr) (hr : w.heap[b]? = some (.cells cur 27)) (hs : cur.size = K) (hi : i * 6 + 6 ≤ K) : ∃ Z : Array Value, Z.size = K ∧ (storeVar 27 ⟨b, i * 6, none⟩ (opV o)).run Tryz.prog w = .ok () (w.setRow b Z) := by
  have := run_storeCells_at (P := Tryz.prog) b (i * 6) 27 (opA o).toList 0 cur w hr (by rw [hs]; show i * 6 + 0 + 6 ≤ K; omega) (fun v hv => by
    have := Array.all_eq_true_iff_forall_mem.1 (op_one o) v (by simpa using hv); exact this)
  have e6 : (opA o).toList.length = 6 := rfl
  rw [e6] at this
  simp only [Nat.add_zero] at this
  have hin := op_inf o
  refine ⟨(cur.toList.take (i * 6) ++ (opA o).toList ++ cur.toList.drop (i * 6 + 6)).toArray, ?_, ?_⟩
  · have hl : cur.toList.length = K := by simpa using hs
    simp [List.length_append, List.length_take, List.length_drop, hs]
    omega
  · cases hq : Tryz.prog.info? 27 with
    | none => simp [hq] at hin
    | some inf =>
      have hs : inf.size = 6 := by simpa [hq] using hin
      simp [storeVar, sizeOf, typeInfo, hq, Value.cells, hs, this]
theorem wpList_opRow {ops : Array Oper} {rest : List Oper} {p : Oper} {a : Act} {w : World} {Q : Exit → Act → World → Prop} (hgd : p.guard = none) (x y : Operand) (ho : p.op = .store 27 x y) {b i K : Nat} {cur : Array Value} (hx : a.eval x = ptr b (i * 6)) (o : Opr) (hy : a.eval y = opV o) (hr : w.heap[b]? = some (.cells cur 27)) (hs : cur.size = K) (hi : i * 6 + 6 ≤ K)
    (h : ∀ Z : Array Value, Z.size = K → wpList Tryz.prog ops Q rest (a.put p.dst undef) (w.setRow b Z)) : wpList Tryz.prog ops Q (p :: rest) a w := by
  obtain ⟨Z, hZ, hrun⟩ := run_opRow (i := i) o hr hs hi
  refine wpList_plain hgd fun K hK => ?_
  unfold Oper.wp execOp
  simp only [ho, hx, hy, Instr.storeAt, Instr.sureAddr, Sem.run_bind, Sem.run_pure, Result.andThen_ok, hrun]
  exact hK _ _ (h Z hZ)
end Go.Proofs.YtccmncecpmemaaaGreatDoor
/- IrRuns: where no run is made. -/
namespace Go.Proofs.YtccmncecpmemaaaGreatDoor
open Go.RowKit
set_option linter.unusedVariables false
set_option linter.unusedSimpArgs false
set_option maxRecDepth 8000

section
variable {w : World} {pc words el : Int} {l : List Opr} {c : Cor}
set_option maxHeartbeats 8000000 in
theorem runs_no {ao : Option Addr} {m cap : Nat} {vz : Value} {E : Int} (hpc : 0 ≤ pc) (O : OpsIn w (.slice ao m cap) l) (hl : l.length * 48 ≤ 140737488351232) (hc : CorOk c) (hE : newE pc words el l c = E) (h0 : E = 1 ∨ E = 4) : Calls Tryz.prog 4 #[blV pc words el (.slice ao m cap), c.val, vz] w fun e w' => e = .returned (.bool true) ∧ Below w.heap.size w w' := by
  have himm : ∀ k, 0 ≤ (opAt l k).imm := fun k => (O.imm k).1
  have N0 : NwC w pc words el (.slice ao m cap) l c w.heap.size (w.heap.size + 1) ((w.alloc (.cells (blA pc words el (.slice ao m cap)) 25)).alloc (.cells c.cells 42)) := by
    have hb := below_alloc w (.cells (blA pc words el (.slice ao m cap)) 25)
    have hb2 := below_alloc (w.alloc (.cells (blA pc words el (.slice ao m cap)) 25)) (.cells c.cells 42)
    refine ⟨?_, ?_, (O.ops.grow hb).grow hb2, below_then hb (Nat.le_refl _) hb2⟩
    · rw [hb2.block _ (by simp)]; exact heap_alloc_new _ _
    · have := heap_alloc_new (w.alloc (.cells (blA pc words el (.slice ao m cap)) 25)) (.cells c.cells 42)
      rw [World.size_alloc] at this; exact this
  go_enter Tryz.func4, Tryz.ntmps4
  go_upto_region 1 with fail
  generalize (w.alloc (.cells (blA pc words el (.slice ao m cap)) 25)).alloc (.cells c.cells 42) = w2 at *
  generalize w.heap.size + 1 = b2 at *
  generalize hbb : w.heap.size = b1 at N0
  clear hbb
  go_upto_region 2 with (first | (go_at_call 5; (with_reducible refine (examples_c _).mono ?_); rintro e w3 ⟨rfl, B⟩; dsimp only; have N := N0.grow B; clear N0 B))
  have kc := copied_o (pc := pc) (words := words) (el := el) N.ops hl
  go_upto_region 3 with (first | ((with_reducible refine wpList_load_if rfl 25 _ rfl _ rfl 25 _ (0, 0) _ N.r1 Tryz.underlying25 rfl (bl_inf _ _ _ _) ?_); simp only [Act.put, List.setIfInBounds_toArray, List.set_cons_succ, List.set_cons_zero]) | (go_at_call 16; (with_reducible refine kc.mono ?_); clear kc; rintro e w4 ⟨v2, rfl, OW, B⟩; dsimp only; have hlo := N.below.size; replace N := N.grow B; clear B; have H := has_none w4; have OC := opsC_of OW O.ops.max; have hv1 := OC.one) | ((with_reducible refine wpList_store_new H rfl 25 _ _ rfl (blA pc words el v2) rfl rfl (bl_inf _ _ _ _) (by kernel_rfl) (blk_one _ _ _ _ hv1) ?_); clear H; intro w5 H; try simp only [Act.put]))
  replace N := N.grow H.below
  replace OC := OC.grow H.below
  have r8 := H.get List.mem_cons_self
  clear OW H
  have hE0 : E ≠ 0 := by omega
  have kd : Calls Tryz.prog 17 #[blV pc words el (.slice ao m cap), c.val] w5 fun e w' => e = .returned (.tuple #[.pointer none, vI E]) ∧ Below w5.heap.size w5 w' := by
    refine (dNew_c hpc N.ops himm O.cap hc).mono ?_
    rintro e w' ⟨hb, ⟨h, he⟩ | ⟨h, _⟩⟩
    · rw [hE] at he; exact ⟨he, hb⟩
    · exact absurd (hE.symm.trans h) hE0
  generalize w4.heap.size = b8 at *
  clear hlo
  have hcmp : (E != E) = false := by simp
  have hcz : (E != 0) = true := by simp [hE0]
  rcases h0 with rfl | rfl
  all_goals
    go_upto_region 4 with (first | ((with_reducible refine wpList_load_if rfl 25 _ rfl _ rfl 25 _ (0, 0) _ N.r1 Tryz.underlying25 rfl (bl_inf _ _ _ _) ?_); simp only [Act.put, List.setIfInBounds_toArray, List.set_cons_succ, List.set_cons_zero]) | ((with_reducible refine wpList_load_if rfl 42 _ rfl _ rfl 42 _ (0, 0) _ N.r2 Tryz.underlying42 rfl (Cor.info _) ?_); simp only [Act.put, List.setIfInBounds_toArray, List.set_cons_succ, List.set_cons_zero]) | (go_at_call 17; (with_reducible refine kd.mono ?_); clear kd; rintro e w6 ⟨rfl, B⟩; dsimp only; replace N := N.grow B; replace OC := OC.grow B; replace r8 := keepRow r8 B; clear B))
    have kn := newN_c (words := words) (el := el) hpc OC.ops himm OC.cap hc hE hE0
    go_wp2_with (first | ((with_reducible refine wpList_load_if rfl 25 _ rfl _ rfl 25 _ (0, 0) _ r8 Tryz.underlying25 rfl (bl_inf _ _ _ _) ?_); simp only [Act.put, List.setIfInBounds_toArray, List.set_cons_succ, List.set_cons_zero]) | ((with_reducible refine wpList_load_if rfl 42 _ rfl _ rfl 42 _ (0, 0) _ N.r2 Tryz.underlying42 rfl (Cor.info _) ?_); simp only [Act.put, List.setIfInBounds_toArray, List.set_cons_succ, List.set_cons_zero]) | (go_at_call 18; (with_reducible refine kn.mono ?_); clear kn; rintro e w7 ⟨rfl, B⟩; dsimp only; replace N := N.grow B; clear B))
    go_ret
    exact ⟨rfl, N.below⟩
end
end Go.Proofs.YtccmncecpmemaaaGreatDoor
