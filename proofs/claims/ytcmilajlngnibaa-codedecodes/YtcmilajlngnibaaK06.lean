/- What together and holds make of a form and an instruction: contracts. -/
import Derived.Test.YtcmilajlngnibaaK05
import Derived.BigQuiet
import Derived.Laws.Tables
import Derived.Test.YtcmilajlngnibaaK01
namespace Go.Proofs.Ytcmilajlngnibaa
open Go.RowKit Go.Rel

theorem rel_load_insn {o : Oper} {a : Act} {w : World} {i : Ins} (x : Operand) (ho : o.op = .load 25 x) (g : Nat) (hx : a.eval x = .pointer (some ⟨g, 0, none⟩)) (hg : w.heap[g]? = some (.cells i.cells 25)) :
    relUpon Try.prog Grows (fun v _ => v = i.val) w ((execOp a.eval o).run Try.prog w) := by
  unfold execOp
  simp only [ho, hx, Instr.loadAt, Instr.sureAddr, Sem.run_bind, Sem.run_pure, Result.andThen_ok, run_loadVar_row w g 25 25 i.cells (0, 0) _ hg Try.underlying25 rfl info25]
  exact ⟨Below.refl _ _, rfl⟩
/-- The form, and the instruction's box. -/
structure Tg (F : Fm) (g o : Nat) (i : Ins) (w0 w : World) : Prop where
  below : Below w0.heap.size w0 w
  box : w.heap[w0.heap.size]? = some (.cells i.cells 25)
  fm : FmAt F g o w
theorem Tg.grow {F : Fm} {g o : Nat} {i : Ins} {w0 w w' : World} (h : Tg F g o i w0 w) (hb : Below w.heap.size w w') : Tg F g o i w0 w' :=
  ⟨h.below.trans (hb.mono h.below.size), by rw [hb.block _ (Array.getElem?_eq_some_iff.1 h.box).1]; exact h.box, h.fm.keep (hb.block g (block_lt_of_cell h.fm.c0))⟩
theorem tg_start {F : Fm} {g o : Nat} (i : Ins) {w : World} (h : FmAt F g o w) : Tg F g o i w (w.alloc (.cells i.cells 25)) :=
  ⟨Go.Proofs.Ytcmilajlngnibaa.below_alloc _ _, heap_alloc_new _ _, h.keep (Below.heap_alloc _ _ _ (block_lt_of_cell h.c0))⟩
theorem tg_up (F : Fm) (g o : Nat) (i : Ins) (w0 : World) : Up Grows (fun w => Tg F g o i w0 w) := fun _ _ h hb => h.grow hb
/-- A new variable of the pair's type. -/
def Fresh (n : Nat) (v : Value) (w : World) : Prop := ∃ b Z, v = .pointer (some ⟨b, 0, none⟩) ∧ n < b ∧ w.heap[b]? = some (.cells Z 52) ∧ Z.size = 18
theorem fresh_up (n : Nat) (v : Value) : Up Grows (Fresh n v) := fun _ _ ⟨b, Z, e, hn, hh, hz⟩ hb => ⟨b, Z, e, hn, by rw [hb.block _ (Array.getElem?_eq_some_iff.1 hh).1]; exact hh, hz⟩
theorem info52 : (Try.prog.info? 52).map (·.size) = some 18 := by kernel_rfl
theorem pair_info (s : St) (lay : Bool) : (Try.prog.info? 52).map (·.size) = some (pairS s lay).size := info52
theorem pair_one (s : St) (lay : Bool) : (pairS s lay).all (·.oneCell') = true := by simp [pairS, Value.oneCell']
set_option maxRecDepth 4000 in
set_option maxHeartbeats 4000000 in
theorem together_c (F : Fm) (hF : FC F.f F.t) (hE : ∀ (args : Array Value) (w : World), (callFunc F.f args).run Try.prog w = .ok (.enter F.f args) w) (g o : Nat) (i : Ins) (O : Ok (F.base, i)) (w : World) (h : FmAt F g o w) :
    Calls Try.prog 19 #[.pointer (some ⟨g, o, none⟩), i.val] w fun e w' => e = .returned (.int .u32 (F.t true (F.base, i)).1) ∧ Below w.heap.size w w' := by
  have H := tg_start i h
  go_enter Try.func19, Try.ntmps19
  go_upto_region 1 with fail
  refine wp_region_tail 7 Grows (fun x => Tg F g o i w x) [.inl (.pointer (some ⟨g, o, none⟩)), .inl (.pointer (some ⟨g, o, none⟩)), .inl (.pointer (some ⟨g, o + 3, none⟩)), .inl (.int .u32 F.base), .inl i.val, .inl (.agg (pairS (F.base, i) true)), .inr (Fresh w.heap.size)] (by kernel_rfl) (by kernel_rfl) (tg_up F g o i w) (H.grow ⟨rfl, rfl, rfl, Nat.le_refl _, fun _ _ => rfl⟩) (by simp only [List.mem_cons, List.not_mem_nil, or_false]; rintro k hk; rcases hk with rfl | rfl | rfl | rfl | rfl | rfl | rfl <;> first | trivial | exact fun v => fresh_up _ v) ?_
  refine ⟨fun w1 hC _ => by go_simp; exact Below.refl _ _, ?_⟩
  simp only [Act.put, List.setIfInBounds_toArray, List.set_cons_succ, List.set_cons_zero]
  refine ⟨fun w1 hC _ => by go_simp; exact Below.refl _ _, ?_⟩
  simp only [Act.put, List.setIfInBounds_toArray, List.set_cons_succ, List.set_cons_zero]
  refine ⟨fun w1 hC _ => by go_simp; exact Below.refl _ _, ?_⟩
  simp only [Act.put, List.setIfInBounds_toArray, List.set_cons_succ, List.set_cons_zero]
  refine ⟨fun w1 hC _ => by have hq := hC.fm.c3; go_simp; exact Below.refl _ _, ?_⟩
  simp only [Act.put, List.setIfInBounds_toArray, List.set_cons_succ, List.set_cons_zero]
  refine ⟨fun w1 hC _ => rel_load_insn _ rfl w.heap.size rfl hC.box, ?_⟩
  simp only [Act.put, List.setIfInBounds_toArray, List.set_cons_succ, List.set_cons_zero]
  refine ⟨fun w1 hC _ => by go_simp; first | exact Below.refl _ _ | exact ⟨Below.refl _ _, rfl⟩, ?_⟩
  simp only [Act.put, List.setIfInBounds_toArray, List.set_cons_succ, List.set_cons_zero]
  refine ⟨fun w1 hC _ => ?_, fun vp => ?_⟩
  · go_simp
    exact ⟨Go.Proofs.Ytcmilajlngnibaa.below_alloc _ _, _, _, rfl, (Array.getElem?_eq_some_iff.1 hC.box).1, heap_alloc_new _ _, rfl⟩
  simp only [Act.put, List.setIfInBounds_toArray, List.set_cons_succ, List.set_cons_zero]
  clear H
  intro w1 H hf
  obtain ⟨b, Z, rfl, hb, hrow, hZ⟩ := (hf 6).1 rfl
  clear hf
  simp only [List.drop_succ_cons, List.drop_zero]
  with_reducible refine wpList_store_row rfl 52 _ _ rfl b _ rfl rfl 52 Z hrow (pair_info _ _) ?_ (pair_one _ _) ?_
  focus (rw [hZ]; rfl)
  have hrow2 := setRow_heap w1 b Z (pairS (F.base, i) true) 52 (0, 0) hrow
  have hfm : FmAt F g o (w1.setRow b (pairS (F.base, i) true)) := H.fm.keep (setRow_other _ _ _ _ (by have := block_lt_of_cell h.c0; simp only at this; omega))
  have HB : Below w.heap.size w (w1.setRow b (pairS (F.base, i) true)) := Go.Proofs.Ytcmilajlngnibaa.below_setRow H.below (by omega)
  generalize w1.setRow b (pairS (F.base, i) true) = w2 at hrow2 hfm HB ⊢
  clear hrow H
  have c4 := hfm.c4
  go_upto_region 3 with (first | (refine (hF b (F.base, i) true _ O hrow2).mono ?_; rintro e w3 ⟨rfl, H1⟩; dsimp only))
  have c0 := H1.at (pair_0 _ _)
  go_wp2
  go_ret
  exact ⟨rfl, ⟨H1.keep.os.trans HB.os, H1.keep.tape.trans HB.tape, H1.keep.output.trans HB.output, Nat.le_trans HB.size H1.keep.size, fun k hk => (H1.keep.block k (by omega) (Nat.lt_of_lt_of_le hk HB.size)).trans (HB.block k hk)⟩⟩
end Go.Proofs.Ytcmilajlngnibaa
/- What holds makes of a form and an instruction: its contract. -/
namespace Go.Proofs.Ytcmilajlngnibaa
open Go.RowKit

def isForm (F : Fm) (i : Ins) : Bool := (F.op == i.op) && (F.sub == i.sub || F.sub == -1)
theorem below_drewN {B : Nat} {a w : World} (h : Below B a w) : ∀ n, Below B a (w.drewN n) := fun _ => ⟨h.os, h.tape, h.output, h.size, h.block⟩
theorem ins_c0 {i : Ins} {b : Nat} {w : World} (h : w.heap[b]? = some (.cells i.cells 25)) : w.cell? ⟨b, 0, none⟩ = some (.int .i64 i.op) := by
  rw [cell_of_row _ _ _ _ _ _ h]; rfl
theorem ins_c1 {i : Ins} {b : Nat} {w : World} (h : w.heap[b]? = some (.cells i.cells 25)) : w.cell? ⟨b, 1, none⟩ = some (.int .i64 i.sub) := by
  rw [cell_of_row _ _ _ _ _ _ h]; rfl
set_option maxRecDepth 4000 in
set_option maxHeartbeats 4000000 in
theorem isForm_c (F : Fm) (g o : Nat) (i : Ins) (w : World) (h : FmAt F g o w) :
    Calls Try.prog 18 #[.pointer (some ⟨g, o, none⟩), i.val] w fun e w' => e = .returned (.bool (isForm F i)) ∧ Below w.heap.size w w' := by
  have H := tg_start i h
  go_enter Try.func18, Try.ntmps18
  go_upto_region 1 with fail
  have c0 := H.fm.c0
  have c1 := H.fm.c1
  have d0 := ins_c0 H.box
  have d1 := ins_c1 H.box
  have HB := H.below
  generalize w.alloc _ = w1 at c0 c1 d0 d1 HB ⊢
  clear H
  by_cases e0 : F.op = i.op
  · have q0 : (F.op == i.op) = true := beq_iff_eq.2 e0
    by_cases e1 : F.sub = i.sub
    · have fin : isForm F i = true := by simp only [isForm, q0, beq_iff_eq.2 e1, Bool.true_and, Bool.true_or]
      clear q0
      go_quiet (fail)
      all_goals (go_wp2; go_ret; exact ⟨by rw [fin]; rfl, below_drewN HB _⟩)
    · have fin : isForm F i = (F.sub == i.sub || F.sub == -1) := by simp only [isForm, q0, Bool.true_and]
      have q1 : decide (F.sub = i.sub) = false := decide_eq_false e1
      go_quiet (fail)
      all_goals (go_wp2; go_ret; exact ⟨by rw [fin]; rfl, below_drewN HB _⟩)
  · have q0 : decide (F.op = i.op) = false := decide_eq_false e0
    have fin : isForm F i = false := by simp only [isForm, beq_eq_false_iff_ne.2 e0, Bool.false_and]
    go_quiet (fail)
    all_goals (go_wp2; go_ret; exact ⟨by rw [fin]; rfl, below_drewN HB _⟩)
end Go.Proofs.Ytcmilajlngnibaa
/- The table of forms, and what allForms makes: a contract. -/
namespace Go.Proofs.Ytcmilajlngnibaa
open Go.RowKit

def fm0 : Fm := ⟨1, 0, 2675965952, 2432696320, 24, addImmT⟩
def fm1 : Fm := ⟨2, 0, 2669674496, 2332033024, 25, addRegT⟩
def fm2 : Fm := ⟨3, (-1), 2667577344, 2315255808, 26, logRegT⟩
def fm3 : Fm := ⟨4, (-1), 2675965952, 2449473536, 27, logImmT⟩
def fm4 : Fm := ⟨5, (-1), 2675965952, 2457862144, 28, movWideT⟩
def fm5 : Fm := ⟨6, (-1), 2680160256, 2470445056, 29, bitfieldT⟩
def fm6 : Fm := ⟨7, (-1), 4292931584, 2596282368, 30, shiftRegT⟩
def fm7 : Fm := ⟨8, 0, 4292870144, 2600468480, 31, mulT⟩
def fm8 : Fm := ⟨9, (-1), 4292933632, 2596276224, 32, divT⟩
def fm9 : Fm := ⟨10, (-1), 3219130368, 2592079872, 33, selT⟩
def fm10 : Fm := ⟨11, (-1), 520093696, 268435456, 34, adrT⟩
def fm11 : Fm := ⟨12, 0, 2080374784, 335544320, 35, bT⟩
def fm12 : Fm := ⟨13, 0, 4278190096, 1409286144, 36, bCondT⟩
def fm13 : Fm := ⟨14, 0, 4261412864, 3019898880, 37, cbzT⟩
def fm14 : Fm := ⟨15, 0, 2113929216, 905969664, 38, tbzT⟩
def fm15 : Fm := ⟨16, (-1), 4288674847, 3592355840, 39, brT⟩
def fm16 : Fm := ⟨17, 0, 4290772992, 4181721088, 40, atImmT⟩
def fm17 : Fm := ⟨18, 0, 4290772992, 4177526784, 40, atImmT⟩
def fm18 : Fm := ⟨19, 0, 4292930560, 4167067648, 41, atRegT⟩
def fm19 : Fm := ⟨20, 0, 4292930560, 4162873344, 41, atRegT⟩
def fm20 : Fm := ⟨21, 0, 4294966272, 3370122240, 42, rdRnT⟩
def fm21 : Fm := ⟨21, 1, 4294966272, 4173316096, 42, rdRnT⟩
def fm22 : Fm := ⟨22, 0, 4294966272, 3365927936, 42, rdRnT⟩
def fm23 : Fm := ⟨23, (-1), 4294933504, 3361700864, 43, ldxrT⟩
def fm24 : Fm := ⟨24, (-1), 4292901888, 3355474944, 44, stxrT⟩
def fm25 : Fm := ⟨25, 0, 4294967295, 3573759839, 45, nothingT⟩
def fm26 : Fm := ⟨26, 0, 4294966527, 3573759167, 46, dmbT⟩
def fm27 : Fm := ⟨26, 1, 4294966527, 3573759135, 46, dmbT⟩
def fm28 : Fm := ⟨27, 0, 4294967295, 3573759967, 45, nothingT⟩
def fm29 : Fm := ⟨28, 0, 4294967264, 3574297888, 47, rdT⟩
def fm30 : Fm := ⟨30, 0, 4294967264, 3574299424, 47, rdT⟩
def fm31 : Fm := ⟨29, 0, 4294967295, 3574101279, 45, nothingT⟩
def fm32 : Fm := ⟨31, 0, 4293918720, 3576692736, 48, systemT⟩
def fm33 : Fm := ⟨32, 0, 4293918720, 3574595584, 48, systemT⟩
def fm34 : Fm := ⟨33, 0, 4294963455, 3573760223, 49, msrMaskT⟩
def fm35 : Fm := ⟨33, 1, 4294963455, 3573760255, 49, msrMaskT⟩
def fm36 : Fm := ⟨34, 0, 4292870175, 3556769793, 50, callT⟩
def fm37 : Fm := ⟨35, 0, 4292870175, 3558866944, 50, callT⟩
def fm38 : Fm := ⟨36, 0, 4294967295, 3600745440, 45, nothingT⟩
def fm39 : Fm := ⟨37, 0, 4294967071, 3573751839, 51, hintT⟩
def formsA : List Fm := [fm0, fm1, fm2, fm3, fm4, fm5, fm6, fm7, fm8, fm9, fm10, fm11, fm12, fm13, fm14, fm15, fm16, fm17, fm18, fm19]
def formsB : List Fm := [fm20, fm21, fm22, fm23, fm24, fm25, fm26, fm27, fm28, fm29, fm30, fm31, fm32, fm33, fm34, fm35, fm36, fm37, fm38, fm39]
def forms : List Fm := formsA ++ formsB
def formCells : List Value := forms.flatMap Fm.cells
theorem wpList_built {P : Program} {ops : Array Oper} {rest : List Oper} {o : Oper} {a : Act} {w : World} {Q : Exit → Act → World → Prop} (hg : o.guard = none) (t : TypeId) (parts : Array (Nat × Operand)) (ho : o.op = .build t parts)
    (cs : Array Value) (hf : P.built t (parts.map fun (i, x) => (i, a.eval x)).toList = some cs)
    (h : wpList P ops Q rest (a.put o.dst (.agg cs)) w) : wpList P ops Q (o :: rest) a w :=
  wpList_build hg t parts ho (by rw [hf]; rfl) (by rw [hf]; exact h)
theorem info40 : (Try.prog.info? 40).map (·.size) = some formCells.toArray.size := by kernel_rfl
theorem forms_len : formCells.toArray.size = 200 := by kernel_rfl
theorem forms_one : formCells.toArray.all (·.oneCell') = true := by kernel_rfl

set_option maxRecDepth 10000 in
set_option maxHeartbeats 4000000 in
theorem allForms_c (w : World) :
    Calls Try.prog 13 #[] w fun e w' => e = .returned (.agg formCells.toArray) ∧ Below w.heap.size w w' := by
  go_enter Try.func13, Try.ntmps13
  go_upto_region 1 with fail
  have hrow := heap_alloc_new w (.cells Try.zeroCells40 40)
  have HB := Go.Proofs.Ytcmilajlngnibaa.below_alloc w (.cells Try.zeroCells40 40)
  generalize w.alloc (.cells Try.zeroCells40 40) = w1 at hrow HB ⊢
  refine wp_region_lit ?_

  with_reducible refine wpList_built rfl 39 _ rfl fm0.cells.toArray (by kernel_rfl) ?_
  simp only [Act.put, List.setIfInBounds_toArray, List.set_cons_succ, List.set_cons_zero]
  with_reducible refine wpList_built rfl 39 _ rfl fm1.cells.toArray (by kernel_rfl) ?_
  simp only [Act.put, List.setIfInBounds_toArray, List.set_cons_succ, List.set_cons_zero]
  with_reducible refine wpList_built rfl 39 _ rfl fm2.cells.toArray (by kernel_rfl) ?_
  simp only [Act.put, List.setIfInBounds_toArray, List.set_cons_succ, List.set_cons_zero]
  with_reducible refine wpList_built rfl 39 _ rfl fm3.cells.toArray (by kernel_rfl) ?_
  simp only [Act.put, List.setIfInBounds_toArray, List.set_cons_succ, List.set_cons_zero]
  with_reducible refine wpList_built rfl 39 _ rfl fm4.cells.toArray (by kernel_rfl) ?_
  simp only [Act.put, List.setIfInBounds_toArray, List.set_cons_succ, List.set_cons_zero]
  with_reducible refine wpList_built rfl 39 _ rfl fm5.cells.toArray (by kernel_rfl) ?_
  simp only [Act.put, List.setIfInBounds_toArray, List.set_cons_succ, List.set_cons_zero]
  with_reducible refine wpList_built rfl 39 _ rfl fm6.cells.toArray (by kernel_rfl) ?_
  simp only [Act.put, List.setIfInBounds_toArray, List.set_cons_succ, List.set_cons_zero]
  with_reducible refine wpList_built rfl 39 _ rfl fm7.cells.toArray (by kernel_rfl) ?_
  simp only [Act.put, List.setIfInBounds_toArray, List.set_cons_succ, List.set_cons_zero]
  with_reducible refine wpList_built rfl 39 _ rfl fm8.cells.toArray (by kernel_rfl) ?_
  simp only [Act.put, List.setIfInBounds_toArray, List.set_cons_succ, List.set_cons_zero]
  with_reducible refine wpList_built rfl 39 _ rfl fm9.cells.toArray (by kernel_rfl) ?_
  simp only [Act.put, List.setIfInBounds_toArray, List.set_cons_succ, List.set_cons_zero]
  with_reducible refine wpList_built rfl 39 _ rfl fm10.cells.toArray (by kernel_rfl) ?_
  simp only [Act.put, List.setIfInBounds_toArray, List.set_cons_succ, List.set_cons_zero]
  with_reducible refine wpList_built rfl 39 _ rfl fm11.cells.toArray (by kernel_rfl) ?_
  simp only [Act.put, List.setIfInBounds_toArray, List.set_cons_succ, List.set_cons_zero]
  with_reducible refine wpList_built rfl 39 _ rfl fm12.cells.toArray (by kernel_rfl) ?_
  simp only [Act.put, List.setIfInBounds_toArray, List.set_cons_succ, List.set_cons_zero]
  with_reducible refine wpList_built rfl 39 _ rfl fm13.cells.toArray (by kernel_rfl) ?_
  simp only [Act.put, List.setIfInBounds_toArray, List.set_cons_succ, List.set_cons_zero]
  with_reducible refine wpList_built rfl 39 _ rfl fm14.cells.toArray (by kernel_rfl) ?_
  simp only [Act.put, List.setIfInBounds_toArray, List.set_cons_succ, List.set_cons_zero]
  with_reducible refine wpList_built rfl 39 _ rfl fm15.cells.toArray (by kernel_rfl) ?_
  simp only [Act.put, List.setIfInBounds_toArray, List.set_cons_succ, List.set_cons_zero]
  with_reducible refine wpList_built rfl 39 _ rfl fm16.cells.toArray (by kernel_rfl) ?_
  simp only [Act.put, List.setIfInBounds_toArray, List.set_cons_succ, List.set_cons_zero]
  with_reducible refine wpList_built rfl 39 _ rfl fm17.cells.toArray (by kernel_rfl) ?_
  simp only [Act.put, List.setIfInBounds_toArray, List.set_cons_succ, List.set_cons_zero]
  with_reducible refine wpList_built rfl 39 _ rfl fm18.cells.toArray (by kernel_rfl) ?_
  simp only [Act.put, List.setIfInBounds_toArray, List.set_cons_succ, List.set_cons_zero]
  with_reducible refine wpList_built rfl 39 _ rfl fm19.cells.toArray (by kernel_rfl) ?_
  simp only [Act.put, List.setIfInBounds_toArray, List.set_cons_succ, List.set_cons_zero]
  with_reducible refine wpList_built rfl 39 _ rfl fm20.cells.toArray (by kernel_rfl) ?_
  simp only [Act.put, List.setIfInBounds_toArray, List.set_cons_succ, List.set_cons_zero]
  with_reducible refine wpList_built rfl 39 _ rfl fm21.cells.toArray (by kernel_rfl) ?_
  simp only [Act.put, List.setIfInBounds_toArray, List.set_cons_succ, List.set_cons_zero]
  with_reducible refine wpList_built rfl 39 _ rfl fm22.cells.toArray (by kernel_rfl) ?_
  simp only [Act.put, List.setIfInBounds_toArray, List.set_cons_succ, List.set_cons_zero]
  with_reducible refine wpList_built rfl 39 _ rfl fm23.cells.toArray (by kernel_rfl) ?_
  simp only [Act.put, List.setIfInBounds_toArray, List.set_cons_succ, List.set_cons_zero]
  with_reducible refine wpList_built rfl 39 _ rfl fm24.cells.toArray (by kernel_rfl) ?_
  simp only [Act.put, List.setIfInBounds_toArray, List.set_cons_succ, List.set_cons_zero]
  with_reducible refine wpList_built rfl 39 _ rfl fm25.cells.toArray (by kernel_rfl) ?_
  simp only [Act.put, List.setIfInBounds_toArray, List.set_cons_succ, List.set_cons_zero]
  with_reducible refine wpList_built rfl 39 _ rfl fm26.cells.toArray (by kernel_rfl) ?_
  simp only [Act.put, List.setIfInBounds_toArray, List.set_cons_succ, List.set_cons_zero]
  with_reducible refine wpList_built rfl 39 _ rfl fm27.cells.toArray (by kernel_rfl) ?_
  simp only [Act.put, List.setIfInBounds_toArray, List.set_cons_succ, List.set_cons_zero]
  with_reducible refine wpList_built rfl 39 _ rfl fm28.cells.toArray (by kernel_rfl) ?_
  simp only [Act.put, List.setIfInBounds_toArray, List.set_cons_succ, List.set_cons_zero]
  with_reducible refine wpList_built rfl 39 _ rfl fm29.cells.toArray (by kernel_rfl) ?_
  simp only [Act.put, List.setIfInBounds_toArray, List.set_cons_succ, List.set_cons_zero]
  with_reducible refine wpList_built rfl 39 _ rfl fm30.cells.toArray (by kernel_rfl) ?_
  simp only [Act.put, List.setIfInBounds_toArray, List.set_cons_succ, List.set_cons_zero]
  with_reducible refine wpList_built rfl 39 _ rfl fm31.cells.toArray (by kernel_rfl) ?_
  simp only [Act.put, List.setIfInBounds_toArray, List.set_cons_succ, List.set_cons_zero]
  with_reducible refine wpList_built rfl 39 _ rfl fm32.cells.toArray (by kernel_rfl) ?_
  simp only [Act.put, List.setIfInBounds_toArray, List.set_cons_succ, List.set_cons_zero]
  with_reducible refine wpList_built rfl 39 _ rfl fm33.cells.toArray (by kernel_rfl) ?_
  simp only [Act.put, List.setIfInBounds_toArray, List.set_cons_succ, List.set_cons_zero]
  with_reducible refine wpList_built rfl 39 _ rfl fm34.cells.toArray (by kernel_rfl) ?_
  simp only [Act.put, List.setIfInBounds_toArray, List.set_cons_succ, List.set_cons_zero]
  with_reducible refine wpList_built rfl 39 _ rfl fm35.cells.toArray (by kernel_rfl) ?_
  simp only [Act.put, List.setIfInBounds_toArray, List.set_cons_succ, List.set_cons_zero]
  with_reducible refine wpList_built rfl 39 _ rfl fm36.cells.toArray (by kernel_rfl) ?_
  simp only [Act.put, List.setIfInBounds_toArray, List.set_cons_succ, List.set_cons_zero]
  with_reducible refine wpList_built rfl 39 _ rfl fm37.cells.toArray (by kernel_rfl) ?_
  simp only [Act.put, List.setIfInBounds_toArray, List.set_cons_succ, List.set_cons_zero]
  with_reducible refine wpList_built rfl 39 _ rfl fm38.cells.toArray (by kernel_rfl) ?_
  simp only [Act.put, List.setIfInBounds_toArray, List.set_cons_succ, List.set_cons_zero]
  with_reducible refine wpList_built rfl 39 _ rfl fm39.cells.toArray (by kernel_rfl) ?_
  simp only [Act.put, List.setIfInBounds_toArray, List.set_cons_succ, List.set_cons_zero]
  with_reducible refine wpList_built rfl 40 _ rfl formCells.toArray (by kernel_rfl) ?_
  simp only [Act.put, List.setIfInBounds_toArray, List.set_cons_succ, List.set_cons_zero]
  with_reducible refine wpList_store_row rfl 40 _ _ rfl w.heap.size formCells.toArray rfl rfl 40 _ hrow info40 (by kernel_rfl) forms_one ?_
  go_wp2
  refine bodyPost_ret (results_cell_row rfl _ _ _ 40 _ (0, 0) _ rfl (setRow_heap _ _ _ _ _ _ hrow) Try.underlying40 rfl info40) rfl ?_
  exact ⟨rfl, below_setRow HB (Nat.le_refl _)⟩
end Go.Proofs.Ytcmilajlngnibaa
/- What Signed and Ror of package bits, and of the document's own answer, give back, for all numbers: contracts. -/
namespace Go.Proofs.Ytcmilajlngnibaa
open Go.RowKit

set_option maxHeartbeats 400000 in
theorem turn_c (v b m : Int) (hv : Hid (0 ≤ v ∧ v < 18446744073709551616)) (hb : 0 ≤ b) (hm : 1 ≤ m) (hm2 : m ≤ 64) (w : World) :
    Calls Try.prog 96 #[.int .u64 v, .int .i64 b, .int .i64 m] w fun e w' => e = .returned (.int .u64 (turnF v b m)) ∧ ∃ n, w' = w.drewN n := by
  have hE := turn_walk v b m hv hb hm hm2
  replace hE := show Hid _ from hE
  have r1 : 0 ≤ b % m := Int.emod_nonneg _ (by omega)
  have r2 : b % m < m := Int.emod_lt_of_pos _ (by omega)
  go_enter Try.func96, Try.ntmps96
  go_wp2
  go_quiet ((go_at_call 94; exact Calls.quiet_of_same (low_c _ (by omega) _)))
  go_wp2
  go_ret
  exact ⟨ret_int hE.out, _, rfl⟩

theorem ror_place {k : Nat} {b m : Int} (h0 : 0 ≤ b) (h1 : 1 ≤ m) : (((k : Int) + b) % m).toNat = (k + b.toNat % m.toNat) % m.toNat := by
  obtain ⟨B, rfl⟩ := Int.eq_ofNat_of_zero_le h0
  obtain ⟨M, rfl⟩ := Int.eq_ofNat_of_zero_le (show 0 ≤ m by omega)
  have e : (((k : Int) + (B : Int)) % (M : Int)) = (((k + B % M) % M : Nat) : Int) := by simp
  rw [e]
  simp only [Int.toNat_natCast]

end Go.Proofs.Ytcmilajlngnibaa
/- Plain facts on masks: the size, the ones, how they are turned and laid again and again: no Go text is named here. -/
namespace Go.Proofs.Ytcmilajlngnibaa
open Go.RowKit

/-- The size that imms tells. -/
def sizeI (n s : Int) : Int :=
  if n = 1 then 64 else if s ≤ 31 then 32 else if s ≤ 47 then 16 else if s ≤ 55 then 8 else if s ≤ 59 then 4 else if s ≤ 61 then 2 else if s ≤ 62 then 1 else 0

def isSize (m : Int) : Prop := m = 2 ∨ m = 4 ∨ m = 8 ∨ m = 16 ∨ m = 32 ∨ m = 64

theorem sizeI_cases (n s : Int) : (sizeI n s < 2 ∨ isSize (sizeI n s)) ∧ sizeI n s ≤ 64 ∧ 0 ≤ sizeI n s := by
  unfold sizeI isSize
  split
  · omega
  · split
    · omega
    · split
      · omega
      · split
        · omega
        · split
          · omega
          · split
            · omega
            · split <;> omega

/-- What stands at the size loop's head. -/
def sizeHead (s z : Int) : Prop := z = 32 ∨ ((z = 16 ∨ z = 8 ∨ z = 4 ∨ z = 2 ∨ z = 1) ∧ 63 - s < 2 * z) ∨ (z = 0 ∧ s = 63)

theorem sizeHead_next {s z : Int} (hs : 0 ≤ s) (hs2 : s ≤ 63) (h : sizeHead s z) (hlt : 63 - s < z) : sizeHead s (z / 2) ∧ 0 < z ∧ z ≤ 32 := by
  unfold sizeHead at *
  omega

theorem sizeHead_end {n s z : Int} (hn : n ≠ 1) (hs2 : s ≤ 63) (h : sizeHead s z) (hge : z ≤ 63 - s) : z = sizeI n s := by
  unfold sizeHead at h
  unfold sizeI
  rw [if_neg hn]
  split
  · omega
  · split
    · omega
    · split
      · omega
      · split
        · omega
        · split
          · omega
          · split <;> omega

theorem sizeHead_bounds {s z : Int} (h : sizeHead s z) : 0 ≤ z ∧ z ≤ 32 := by
  unfold sizeHead at h
  omega

/-! ### The piece, laid again and again -/
def repBit (p m : Int) (i : Nat) : Bool := p.toNat.testBit (i % m.toNat)
def repF (p m : Int) : Int := ((orBits (repBit p m) 64 : Nat) : Int)

theorem rep_start (p m : Int) (h0 : 0 ≤ p) (hp : p.toNat < 2 ^ m.toNat) : p = ((orBits (repBit p m) m.toNat : Nat) : Int) := by
  have e : p.toNat = orBits (repBit p m) m.toNat := by
    apply eq_orBits
    intro i
    unfold repBit
    by_cases h : i < m.toNat
    · rw [Nat.mod_eq_of_lt h]; simp [h]
    · have : p.toNat.testBit i = false := Nat.testBit_lt_two_pow (Nat.lt_of_lt_of_le hp (Nat.pow_le_pow_right (by decide) (by omega)))
      simp [h, this]
  omega

theorem rep_step (p m : Int) (s : Nat) (hd : m.toNat ∣ s) (hs : s + s ≤ 64) :
    bits .or .u64 ((orBits (repBit p m) s : Nat) : Int) (IntKind.u64.wrap (((orBits (repBit p m) s : Nat) : Int) * 2 ^ s)) = ((orBits (repBit p m) (s + s) : Nat) : Int) := by
  have h1 := orBits_lt (repBit p m) s
  have h2 : orBits (repBit p m) s * 2 ^ s < 18446744073709551616 := by
    have a : orBits (repBit p m) s * 2 ^ s < 2 ^ s * 2 ^ s := Nat.mul_lt_mul_of_pos_right h1 (Nat.two_pow_pos _)
    rw [← Nat.pow_add] at a
    exact Nat.lt_of_lt_of_le a (pow_le64 hs)
  have e : IntKind.u64.wrap (((orBits (repBit p m) s : Nat) : Int) * 2 ^ s) = ((orBits (repBit p m) s * 2 ^ s : Nat) : Int) := by
    rw [IntKind.wrap_u64]
    have : ((orBits (repBit p m) s : Nat) : Int) * 2 ^ s = ((orBits (repBit p m) s * 2 ^ s : Nat) : Int) := by simp
    rw [this]
    omega
  rw [e, bits_or_u64_nat _ _ (orBits_lt64 _ s (by omega)) h2]
  congr 1
  apply eq_orBits
  intro i
  rw [Nat.testBit_or, Nat.testBit_mul_two_pow, testBit_orBits, testBit_orBits]
  by_cases c1 : i < s
  · have c2 : i < s + s := by omega
    have c3 : ¬ s ≤ i := by omega
    simp [c1, c2, c3]
  · by_cases c2 : i < s + s
    · have c3 : s ≤ i := by omega
      have c4 : i - s < s := by omega
      have c5 : repBit p m (i - s) = repBit p m i := by
        unfold repBit
        congr 1
        obtain ⟨c, hc⟩ := hd
        have : i = (i - s) + m.toNat * c := by omega
        conv => rhs; rw [this]
        rw [Nat.add_mul_mod_self_left]
      simp [c1, c2, c3, c4, c5]
    · have c4 : ¬ i - s < s := by omega
      simp [c1, c2, c4]

/-! ### The mask of a size, a number of ones and a turn -/
def maskN (z s r : Nat) : Nat := orBits (fun i => (turnN (2 ^ (s + 1) - 1) r z).testBit (i % z)) 64

def argB (n r s : Int) : Bool := decide ((0 ≤ n ∧ n ≤ 1) ∧ (0 ≤ r ∧ r ≤ 63) ∧ (0 ≤ s ∧ s ≤ 63))
def badB (n s : Int) : Bool := decide (sizeI n s < 2 ∨ s % sizeI n s = sizeI n s - 1)
def maskV (n r s : Int) : Int := if (argB n r s && !badB n s) = true then ((maskN (sizeI n s).toNat (s % sizeI n s).toNat (r % sizeI n s).toNat : Nat) : Int) else 0
def maskE (n r s : Int) : Int := if argB n r s = true then (if badB n s = true then 2 else 0) else 1

theorem arg_of {n r s : Int} (h : argB n r s = true) : (0 ≤ n ∧ n ≤ 1) ∧ (0 ≤ r ∧ r ≤ 63) ∧ (0 ≤ s ∧ s ≤ 63) := by
  unfold argB at h
  rwa [decide_eq_true_eq] at h

theorem notarg_of {n r s : Int} (h : argB n r s = false) : ¬ ((0 ≤ n ∧ n ≤ 1) ∧ (0 ≤ r ∧ r ≤ 63) ∧ (0 ≤ s ∧ s ≤ 63)) := by
  unfold argB at h
  rwa [decide_eq_false_iff_not] at h

theorem mask_arg {n r s : Int} (h : argB n r s = false) : maskV n r s = 0 ∧ maskE n r s = 1 := by
  unfold maskV maskE
  rw [h]
  exact ⟨rfl, rfl⟩

theorem mask_bad {n r s : Int} (h : argB n r s = true) (hb : badB n s = true) : maskV n r s = 0 ∧ maskE n r s = 2 := by
  unfold maskV maskE
  rw [h, hb]
  exact ⟨rfl, rfl⟩

theorem mask_yes {n r s : Int} (h : argB n r s = true) (hb : badB n s = false) : maskV n r s = ((maskN (sizeI n s).toNat (s % sizeI n s).toNat (r % sizeI n s).toNat : Nat) : Int) ∧ maskE n r s = 0 := by
  unfold maskV maskE
  rw [h, hb]
  exact ⟨rfl, rfl⟩

theorem size_pos {m : Int} (h : isSize m) : 2 ≤ m ∧ m ≤ 64 := by unfold isSize at h; omega

theorem lowF_bounds (k : Int) : 0 ≤ lowF k ∧ lowF k < 18446744073709551616 := by
  unfold lowF
  have := pow_le64 (m := min k.toNat 64) (by omega)
  have := Nat.two_pow_pos (min k.toNat 64)
  omega

theorem turnF_bounds (v b m : Int) (hm : m ≤ 64) : 0 ≤ turnF v b m ∧ turnF v b m < 18446744073709551616 := by
  unfold turnF
  have := turnN_lt v.toNat b.toNat m.toNat
  have := pow_le64 (m := m.toNat) (by omega)
  omega

theorem turnF_fits (v b m : Int) : (turnF v b m).toNat < 2 ^ m.toNat := by
  unfold turnF
  rw [Int.toNat_natCast]
  exact turnN_lt _ _ _

/-- What package bits makes of them is the mask. -/
theorem mask_code {z s r : Int} (hz : 2 ≤ z) (hz2 : z ≤ 64) : repF (turnF (lowF (s % z + 1)) (r % z) z) z = ((maskN z.toNat (s % z).toNat (r % z).toNat : Nat) : Int) := by
  have q1 : 0 ≤ s % z := Int.emod_nonneg _ (by omega)
  have q2 : s % z < z := Int.emod_lt_of_pos _ (by omega)
  have e : (s % z + 1).toNat = (s % z).toNat + 1 := by omega
  have e2 : min ((s % z).toNat + 1) 64 = (s % z).toNat + 1 := by omega
  unfold repF maskN repBit turnF lowF
  rw [e, e2]
  simp only [Int.toNat_natCast]

theorem ones_low (k : Nat) (hk : k ≤ 64) : ((orBits (fun _ => true) k : Nat) : Int) = lowF (k : Int) := by
  unfold lowF
  have : 2 ^ k - 1 = orBits (fun _ => true) k := by
    apply eq_orBits
    intro i
    rw [Nat.testBit_two_pow_sub_one]
    simp
  rw [Int.toNat_natCast, show min k 64 = k by omega, this]

theorem one_step (k : Nat) (hk : k < 64) : bits .or .u64 ((orBits (fun _ => true) k : Nat) : Int) (IntKind.u64.wrap (2 ^ k)) = ((orBits (fun _ => true) (k + 1) : Nat) : Int) := by
  have := or_step (fun _ => true) k hk 1 rfl
  rwa [Int.one_mul] at this

theorem low_fits {k z : Int} (h1 : k ≤ z) (hz : z ≤ 64) : fits64 (lowF k) z = true := by
  unfold fits64 lowF
  rw [decide_eq_true_eq, Int.toNat_natCast]
  have : 2 ^ min k.toNat 64 ≤ 2 ^ z.toNat := Nat.pow_le_pow_right (by decide) (by omega)
  have := Nat.two_pow_pos (min k.toNat 64)
  omega

end Go.Proofs.Ytcmilajlngnibaa
/- What Mask of package bits, and of the document's own answer, gives back, for all numbers: contracts. -/
namespace Go.Proofs.Ytcmilajlngnibaa
open Go.RowKit

set_option maxHeartbeats 400000 in
theorem sizeOf_c (n s : Int) (hs : 0 ≤ s) (hs2 : s ≤ 63) (w : World) :
    Calls Try.prog 93 #[.int .i64 n, .int .i64 s] w fun e w' => e = .returned (.int .i64 (sizeI n s)) ∧ w' = w := by
  by_cases hn : n = 1
  · have hE : Hid (sizeI n s = 64) := by show _ = _; unfold sizeI; rw [if_pos hn]
    have hn : (n == 1) = true := by simpa using hn
    go_enter Try.func93, Try.ntmps93
    go_wp2
    go_ret
    exact ⟨ret_int hE.out.symm, rfl⟩
  · have hN : Hid (n ≠ 1) := hn
    have hn : (n == 1) = false := by simpa using hn
    go_enter Try.func93, Try.ntmps93
    go_wp2
    go_loop [5] (fun z => ∃ k : Int, Hid (sizeHead s k) ∧ z = .int .i64 k) (fun z => (intOf z).toNat)
    case atStart => exact ⟨32, Or.inl rfl, rfl⟩
    case round =>
      obtain ⟨k, hk, rfl⟩ := hrel
      obtain ⟨b1, b2⟩ := sizeHead_bounds hk.out
      by_cases hlt : 63 - s < k
      · obtain ⟨g1, g2, g3⟩ := sizeHead_next hs hs2 hk.out hlt
        have G : Hid (sizeHead s (k / 2)) := g1
        clear g1
        go_wp2
        go_round
        case rel => exact ⟨k / 2, G, rfl⟩
        case measure => simp [intOf]; omega
      · go_wp2
        go_ret
        exact ⟨ret_int (sizeHead_end hN.out hs2 hk.out (by omega)), rfl⟩

set_option maxHeartbeats 400000 in
theorem again_c (p m : Int) (hp : Hid (0 ≤ p ∧ p.toNat < 2 ^ m.toNat)) (hm : Hid (isSize m)) (w : World) :
    Calls Try.prog 95 #[.int .u64 p, .int .i64 m] w fun e w' => e = .returned (.int .u64 (repF p m)) ∧ w' = w := by
  obtain ⟨h1, h2⟩ := size_pos hm.out
  go_enter Try.func95, Try.ntmps95
  go_wp2
  go_loop [0, 1] (fun q z => ∃ k : Nat, Hid (isSize k) ∧ Hid (m.toNat ∣ k) ∧ z = .int .i64 k ∧ q = .int .u64 ((orBits (repBit p m) k : Nat) : Int)) (fun _ z => 64 - (intOf z).toNat)
  case atStart =>
    refine ⟨m.toNat, ?_, Nat.dvd_refl _, ?_, ?_⟩
    · rw [Int.toNat_of_nonneg (by omega)]; exact hm
    · rw [Int.toNat_of_nonneg (by omega)]
    · rw [← rep_start p m hp.out.1 hp.out.2]
  case round =>
    obtain ⟨k, hk, hd, rfl, rfl⟩ := hrel
    obtain ⟨b1, b2⟩ := size_pos hk.out
    by_cases hlt : (k : Int) < 64
    · have hk2 : Hid (isSize ((k + k : Nat) : Int)) ∧ k + k ≤ 64 := by
        have := hk.out; unfold isSize at this; refine ⟨?_, by omega⟩; show isSize _; unfold isSize; omega
      obtain ⟨hk2, hk3⟩ := hk2
      go_wp2
      go_round
      case rel =>
        refine ⟨k + k, hk2, Nat.dvd_add hd.out hd.out, ?_, ?_⟩
        · rw [show ((k + k : Nat) : Int) = (k : Int) * 2 by omega]
        · rw [rep_step p m k hd.out hk3]
      case measure => simp [intOf]; omega
    · obtain rfl : k = 64 := by omega
      go_wp2
      go_ret
      exact ⟨ret_int rfl, rfl⟩

set_option maxHeartbeats 800000 in
theorem mask_c (n r s : Int) (w : World) :
    Calls Try.prog 88 #[.int .i64 n, .int .i64 r, .int .i64 s] w fun e w' => e = .returned (.tuple #[.int .u64 (maskV n r s), .int .i64 (maskE n r s)]) ∧ ∃ m, w' = w.drewN m := by
  by_cases ha : argB n r s = true
  · obtain ⟨⟨a1, a2⟩, ⟨a3, a4⟩, a5, a6⟩ := arg_of ha
    have s1 : sixB r = true := by unfold sixB; rw [decide_eq_true_eq]; omega
    have s2 : sixB s = true := by unfold sixB; rw [decide_eq_true_eq]; omega
    obtain ⟨z1, z2, z3⟩ := sizeI_cases n s
    by_cases hb : badB n s = true
    · have hE := mask_bad ha hb
      replace hE := show Hid _ from hE
      have hb' : Hid (sizeI n s < 2 ∨ s % sizeI n s = sizeI n s - 1) := by unfold badB at hb; rwa [decide_eq_true_eq] at hb
      clear z1 ha hb
      generalize hZ : sizeI n s = z at *
      replace hZ := show Hid _ from hZ
      by_cases hz : z < 2
      · go_enter Try.func88, Try.ntmps88
        go_wp2_with (first | (go_at_call 92; refine (six_c _ _).mono ?_; rintro e w' ⟨rfl, rfl⟩) | (go_at_call 93; refine (sizeOf_c _ _ (by omega) (by omega) _).mono ?_; rw [hZ.out]; rintro e w' ⟨rfl, rfl⟩))
        go_ret2
        exact ⟨ret_two hE.out.1.symm hE.out.2.symm, 0, rfl⟩
      · have hz2 : (s % z == z - 1) = true := by have := hb'.out; rw [beq_iff_eq]; omega
        go_enter Try.func88, Try.ntmps88
        go_wp2_with (first | (go_at_call 92; refine (six_c _ _).mono ?_; rintro e w' ⟨rfl, rfl⟩) | (go_at_call 93; refine (sizeOf_c _ _ (by omega) (by omega) _).mono ?_; rw [hZ.out]; rintro e w' ⟨rfl, rfl⟩))
        go_ret2
        exact ⟨ret_two hE.out.1.symm hE.out.2.symm, 0, rfl⟩
    · have hbf : badB n s = false := by simpa using hb
      have hE := mask_yes ha hbf
      replace hE := show Hid _ from hE
      have hb' : Hid (¬ (sizeI n s < 2 ∨ s % sizeI n s = sizeI n s - 1)) := by unfold badB at hbf; rwa [decide_eq_false_iff_not] at hbf
      clear ha hb hbf
      generalize hZ : sizeI n s = z at *
      replace hZ := show Hid _ from hZ
      have hz : 2 ≤ z := by have := hb'.out; omega
      have hZs : Hid (isSize z) := by rcases z1 with h | h; exact absurd h (by omega); exact h
      clear z1
      have hz2 : (s % z == z - 1) = false := by have := hb'.out; rw [beq_eq_false_iff_ne]; omega
      have q1 : 0 ≤ s % z := Int.emod_nonneg _ (by omega)
      have q2 : s % z < z := Int.emod_lt_of_pos _ (by omega)
      have q3 : 0 ≤ r % z := Int.emod_nonneg _ (by omega)
      have q4 : r % z < z := Int.emod_lt_of_pos _ (by omega)
      have hM := mask_code (s := s) (r := r) hz z2
      replace hM := show Hid _ from hM
      go_enter Try.func88, Try.ntmps88
      go_wp2_with (first | (go_at_call 92; refine (six_c _ _).mono ?_; rintro e w' ⟨rfl, rfl⟩) | (go_at_call 93; refine (sizeOf_c _ _ (by omega) (by omega) _).mono ?_; rw [hZ.out]; rintro e w' ⟨rfl, rfl⟩) | (go_at_call 94; refine (low_c _ (by omega) _).mono ?_; rintro e w' ⟨rfl, rfl⟩) | (go_at_call 96; refine (turn_c _ _ _ (lowF_bounds _) (by omega) (by omega) (by omega) _).mono ?_; rintro e w' ⟨rfl, nn, rfl⟩) | (go_at_call 95; refine (again_c _ _ ⟨(turnF_bounds _ _ _ (by omega)).1, turnF_fits _ _ _⟩ hZs _).mono ?_; rintro e w' ⟨rfl, rfl⟩))
      go_ret2
      exact ⟨ret_two (by rw [hE.out.1]; exact hM.out) hE.out.2.symm, _, rfl⟩
  · have ha : argB n r s = false := by simpa using ha
    have hE := mask_arg ha
    replace hE := show Hid _ from hE
    have hn : Hid (¬ ((0 ≤ n ∧ n ≤ 1) ∧ (0 ≤ r ∧ r ≤ 63) ∧ (0 ≤ s ∧ s ≤ 63))) := notarg_of ha
    clear ha
    by_cases g1 : n < 0
    · go_enter Try.func88, Try.ntmps88
      go_wp2_with (go_at_call 92; refine (six_c _ _).mono ?_; rintro e w' ⟨rfl, rfl⟩)
      go_ret2
      exact ⟨ret_two hE.out.1.symm hE.out.2.symm, 0, rfl⟩
    · by_cases g2 : 1 < n
      · go_enter Try.func88, Try.ntmps88
        go_wp2_with (go_at_call 92; refine (six_c _ _).mono ?_; rintro e w' ⟨rfl, rfl⟩)
        go_ret2
        exact ⟨ret_two hE.out.1.symm hE.out.2.symm, 0, rfl⟩
      · by_cases g3 : sixB r = true
        · have g4 : sixB s = false := by
            unfold sixB at *
            rw [decide_eq_true_eq] at g3
            rw [decide_eq_false_iff_not]
            have := hn.out
            omega
          go_enter Try.func88, Try.ntmps88
          go_wp2_with (go_at_call 92; refine (six_c _ _).mono ?_; rintro e w' ⟨rfl, rfl⟩)
          go_ret2
          exact ⟨ret_two hE.out.1.symm hE.out.2.symm, 0, rfl⟩
        · have g3 : sixB r = false := by simpa using g3
          go_enter Try.func88, Try.ntmps88
          go_wp2_with (go_at_call 92; refine (six_c _ _).mono ?_; rintro e w' ⟨rfl, rfl⟩)
          go_ret2
          exact ⟨ret_two hE.out.1.symm hE.out.2.symm, 0, rfl⟩

theorem mod_place {k : Nat} {z : Int} (hz : 0 ≤ z) : ((k : Int) % z).toNat = k % z.toNat := by
  obtain ⟨Z, rfl⟩ := Int.eq_ofNat_of_zero_le hz
  have e : ((k : Int) % (Z : Int)) = ((k % Z : Nat) : Int) := by simp
  rw [e]
  simp only [Int.toNat_natCast]

end Go.Proofs.Ytcmilajlngnibaa
