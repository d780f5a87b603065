/- The bus: its ranges, its system registers. -/
import Derived.Test.YteklkololojamaaGreatBe
namespace Go.Proofs.YteklkololojamaaGreat
open Go.RowKit
set_option linter.unusedVariables false
set_option linter.unusedSimpArgs false
set_option maxRecDepth 8000

theorem wpList_built {P : Program} {ops : Array Oper} {rest : List Oper} {o : Oper} {a : Act} {w : World} {Q : Exit → Act → World → Prop} (hg : o.guard = none) (t : TypeId) (parts : Array (Nat × Operand)) (ho : o.op = .build t parts)
    (cs : Array Value) (hf : P.built t (parts.map fun (i, x) => (i, a.eval x)).toList = some cs)
    (h : wpList P ops Q rest (a.put o.dst (.agg cs)) w) : wpList P ops Q (o :: rest) a w :=
  wpList_build hg t parts ho (by rw [hf]; rfl) (by rw [hf]; exact h)

/-- A range of registers. -/
structure Spn where
  f : Int
  c : Int
  r : Value
  w : Value
def Spn.row (s : Spn) : List Value := [vU s.f, vU s.c, s.r, s.w]
abbrev Spn.val (s : Spn) : Value := .agg #[vU s.f, vU s.c, s.r, s.w]
def spn : Nat → Spn
  | 0 => ⟨134217728, 1, .func (.func 81) #[] #[], .func (.func 82) #[] #[]⟩
  | 1 => ⟨134217736, 1, .func (.func 81) #[] #[], .func (.func 83) #[] #[]⟩
  | 2 => ⟨134217744, 1, .func (.func 84) #[] #[], .func (.func 85) #[] #[]⟩
  | 3 => ⟨134217752, 1, .func (.func 84) #[] #[], .func (.func 86) #[] #[]⟩
  | 4 => ⟨134217760, 1, .func (.func 87) #[] #[], .func (.func 88) #[] #[]⟩
  | 5 => ⟨134218240, 64, .func (.func 89) #[] #[], .func (.func 90) #[] #[]⟩
  | 6 => ⟨134218752, 32, .func (.func 91) #[] #[], .func (.func 92) #[] #[]⟩
  | 7 => ⟨150994944, 1, .func (.func 93) #[] #[], .func (.func 94) #[] #[]⟩
  | _ => ⟨0, 0, .nilFunc, .nilFunc⟩
def spnCells : Array Value := #[vU 134217728, vU 1, .func (.func 81) #[] #[], .func (.func 82) #[] #[], vU 134217736, vU 1, .func (.func 81) #[] #[], .func (.func 83) #[] #[], vU 134217744, vU 1, .func (.func 84) #[] #[], .func (.func 85) #[] #[], vU 134217752, vU 1, .func (.func 84) #[] #[], .func (.func 86) #[] #[], vU 134217760, vU 1, .func (.func 87) #[] #[], .func (.func 88) #[] #[], vU 134218240, vU 64, .func (.func 89) #[] #[], .func (.func 90) #[] #[], vU 134218752, vU 32, .func (.func 91) #[] #[], .func (.func 92) #[] #[], vU 150994944, vU 1, .func (.func 93) #[] #[], .func (.func 94) #[] #[]]
theorem spn_inf : (Tryz.prog.info? 80).map (·.size) = some 4 := by kernel_rfl
theorem spn_infA : (Tryz.prog.info? 130).map (·.size) = some spnCells.size := by kernel_rfl
theorem spn_one : spnCells.all (·.oneCell') = true := by kernel_rfl
set_option maxHeartbeats 1000000 in
theorem spn_c (w : World) : Calls Tryz.prog 72 #[] w fun e w' => e = .returned (.agg spnCells) ∧ Below w.heap.size w w' := by
  go_enter Tryz.func72, Tryz.ntmps72
  go_upto_region 1 with fail
  have hrow := fun C => heap_alloc_new w (.cells C 130)
  have HB := fun C => below_alloc w (.cells C 130)
  generalize hw1 : World.alloc _ _ = w1
  replace hrow : ∃ C : Array Value, C.size = spnCells.size ∧ w1.heap[w.heap.size]? = some (.cells C 130) := ⟨_, (by kernel_rfl), by rw [← hw1]; exact hrow _⟩
  replace HB : Below w.heap.size w w1 := by rw [← hw1]; exact HB _
  obtain ⟨C, hC, hrow⟩ := hrow
  clear hw1
  refine wp_region_lit ?_
  with_reducible refine wpList_built rfl 80 _ rfl #[vU 134217728, vU 1, .func (.func 81) #[] #[], .func (.func 82) #[] #[]] (by kernel_rfl) ?_
  simp only [Act.put, List.setIfInBounds_toArray, List.set_cons_succ, List.set_cons_zero]
  with_reducible refine wpList_built rfl 80 _ rfl #[vU 134217736, vU 1, .func (.func 81) #[] #[], .func (.func 83) #[] #[]] (by kernel_rfl) ?_
  simp only [Act.put, List.setIfInBounds_toArray, List.set_cons_succ, List.set_cons_zero]
  with_reducible refine wpList_built rfl 80 _ rfl #[vU 134217744, vU 1, .func (.func 84) #[] #[], .func (.func 85) #[] #[]] (by kernel_rfl) ?_
  simp only [Act.put, List.setIfInBounds_toArray, List.set_cons_succ, List.set_cons_zero]
  with_reducible refine wpList_built rfl 80 _ rfl #[vU 134217752, vU 1, .func (.func 84) #[] #[], .func (.func 86) #[] #[]] (by kernel_rfl) ?_
  simp only [Act.put, List.setIfInBounds_toArray, List.set_cons_succ, List.set_cons_zero]
  with_reducible refine wpList_built rfl 80 _ rfl #[vU 134217760, vU 1, .func (.func 87) #[] #[], .func (.func 88) #[] #[]] (by kernel_rfl) ?_
  simp only [Act.put, List.setIfInBounds_toArray, List.set_cons_succ, List.set_cons_zero]
  with_reducible refine wpList_built rfl 80 _ rfl #[vU 134218240, vU 64, .func (.func 89) #[] #[], .func (.func 90) #[] #[]] (by kernel_rfl) ?_
  simp only [Act.put, List.setIfInBounds_toArray, List.set_cons_succ, List.set_cons_zero]
  with_reducible refine wpList_built rfl 80 _ rfl #[vU 134218752, vU 32, .func (.func 91) #[] #[], .func (.func 92) #[] #[]] (by kernel_rfl) ?_
  simp only [Act.put, List.setIfInBounds_toArray, List.set_cons_succ, List.set_cons_zero]
  with_reducible refine wpList_built rfl 80 _ rfl #[vU 150994944, vU 1, .func (.func 93) #[] #[], .func (.func 94) #[] #[]] (by kernel_rfl) ?_
  simp only [Act.put, List.setIfInBounds_toArray, List.set_cons_succ, List.set_cons_zero]
  with_reducible refine wpList_built rfl 130 _ rfl spnCells (by kernel_rfl) ?_
  simp only [Act.put, List.setIfInBounds_toArray, List.set_cons_succ, List.set_cons_zero]
  with_reducible refine wpList_store_row rfl 130 _ _ rfl w.heap.size spnCells rfl rfl 130 _ hrow spn_infA hC spn_one ?_
  go_wp2
  refine bodyPost_ret (results_cell_row rfl _ _ _ 130 _ (0, 0) _ rfl (setRow_heap _ _ _ _ _ _ hrow) Tryz.underlying130 rfl spn_infA) rfl ?_
  exact ⟨rfl, below_setRow HB (Nat.le_refl _)⟩
theorem spn_idx (w : World) : ∀ k : Nat, k < 8 → Sem.run Tryz.prog (Instr.index 130 (.agg spnCells) (vI k)) w = .ok (spn k).val w
  | 0, _ => by kernel_rfl
  | 1, _ => by kernel_rfl
  | 2, _ => by kernel_rfl
  | 3, _ => by kernel_rfl
  | 4, _ => by kernel_rfl
  | 5, _ => by kernel_rfl
  | 6, _ => by kernel_rfl
  | 7, _ => by kernel_rfl
  | k + 8, h => absurd h (by omega)
theorem spn_st {ops : Array Oper} {rest : List Oper} {o : Oper} {a : Act} {w : World} {Q : Exit → Act → World → Prop} (hgd : o.guard = none) (x y : Operand) (ho : o.op = .store 80 x y) (b : Nat) (hx : a.eval x = ptr b 0) (s : Spn) (h1 : s.r.oneCell' = true) (h2 : s.w.oneCell' = true) (C : Array Value) (hC : C.size = 4) (hy : a.eval y = s.val) (hg : w.heap[b]? = some (.cells C 80))
    (h : wpList Tryz.prog ops Q rest (a.put o.dst undef) (w.setRow b s.row.toArray)) : wpList Tryz.prog ops Q (o :: rest) a w :=
  wpList_store_row hgd 80 x y ho b s.row.toArray hx hy 80 _ hg spn_inf hC (by simp [Spn.row, h1, h2]; exact ⟨rfl, rfl⟩) h
theorem spn_ld {ops : Array Oper} {rest : List Oper} {o : Oper} {a : Act} {w : World} {Q : Exit → Act → World → Prop} (hgd : o.guard = none) (x : Operand) (ho : o.op = .load 80 x) (b : Nat) (hx : a.eval x = ptr b 0) (s : Spn) (hg : w.heap[b]? = some (.cells s.row.toArray 80))
    (h : wpList Tryz.prog ops Q rest (a.put o.dst s.val) w) : wpList Tryz.prog ops Q (o :: rest) a w :=
  wpList_load_mid hgd 80 x ho b 0 hx s.row _ (fun j y hy => by rw [cell_of_row _ _ _ _ _ _ hg, Nat.zero_add]; simpa using hy) Tryz.underlying80 rfl spn_inf h
theorem spn_r1 : ∀ k, (spn k).r.oneCell' = true ∧ (spn k).w.oneCell' = true
  | 0 => ⟨rfl, rfl⟩
  | 1 => ⟨rfl, rfl⟩
  | 2 => ⟨rfl, rfl⟩
  | 3 => ⟨rfl, rfl⟩
  | 4 => ⟨rfl, rfl⟩
  | 5 => ⟨rfl, rfl⟩
  | 6 => ⟨rfl, rfl⟩
  | 7 => ⟨rfl, rfl⟩
  | _ + 8 => ⟨rfl, rfl⟩

/-- A system register. -/
structure Rgt where
  f : Int
  c : Int
  r : Value
  w : Value
def Rgt.row (s : Rgt) : List Value := [vI s.f, vI s.c, s.r, s.w]
abbrev Rgt.val (s : Rgt) : Value := .agg #[vI s.f, vI s.c, s.r, s.w]
def reg : Nat → Rgt
  | 0 => ⟨24322, 0, .func (.func 95) #[] #[], .nilFunc⟩
  | 1 => ⟨24345, 0, .func (.func 96) #[] #[], .func (.func 97) #[] #[]⟩
  | 2 => ⟨24346, 0, .func (.func 98) #[] #[], .func (.func 99) #[] #[]⟩
  | 3 => ⟨18016, 1, .func (.func 100) #[] #[], .nilFunc⟩
  | 4 => ⟨16944, 1, .func (.func 101) #[] #[], .func (.func 102) #[] #[]⟩
  | 5 => ⟨18017, 1, .nilFunc, .func (.func 103) #[] #[]⟩
  | 6 => ⟨18013, 1, .nilFunc, .func (.func 104) #[] #[]⟩
  | _ => ⟨0, 0, .nilFunc, .nilFunc⟩
def regCells : Array Value := #[vI 24322, vI 0, .func (.func 95) #[] #[], .nilFunc, vI 24345, vI 0, .func (.func 96) #[] #[], .func (.func 97) #[] #[], vI 24346, vI 0, .func (.func 98) #[] #[], .func (.func 99) #[] #[], vI 18016, vI 1, .func (.func 100) #[] #[], .nilFunc, vI 16944, vI 1, .func (.func 101) #[] #[], .func (.func 102) #[] #[], vI 18017, vI 1, .nilFunc, .func (.func 103) #[] #[], vI 18013, vI 1, .nilFunc, .func (.func 104) #[] #[]]
theorem reg_inf : (Tryz.prog.info? 94).map (·.size) = some 4 := by kernel_rfl
theorem reg_infA : (Tryz.prog.info? 132).map (·.size) = some regCells.size := by kernel_rfl
theorem reg_one : regCells.all (·.oneCell') = true := by kernel_rfl
set_option maxHeartbeats 1000000 in
theorem reg_c (w : World) : Calls Tryz.prog 73 #[] w fun e w' => e = .returned (.agg regCells) ∧ Below w.heap.size w w' := by
  go_enter Tryz.func73, Tryz.ntmps73
  go_upto_region 1 with fail
  have hrow := fun C => heap_alloc_new w (.cells C 132)
  have HB := fun C => below_alloc w (.cells C 132)
  generalize hw1 : World.alloc _ _ = w1
  replace hrow : ∃ C : Array Value, C.size = regCells.size ∧ w1.heap[w.heap.size]? = some (.cells C 132) := ⟨_, (by kernel_rfl), by rw [← hw1]; exact hrow _⟩
  replace HB : Below w.heap.size w w1 := by rw [← hw1]; exact HB _
  obtain ⟨C, hC, hrow⟩ := hrow
  clear hw1
  refine wp_region_lit ?_
  with_reducible refine wpList_built rfl 94 _ rfl #[vI 24322, vI 0, .func (.func 95) #[] #[], .nilFunc] (by kernel_rfl) ?_
  simp only [Act.put, List.setIfInBounds_toArray, List.set_cons_succ, List.set_cons_zero]
  with_reducible refine wpList_built rfl 94 _ rfl #[vI 24345, vI 0, .func (.func 96) #[] #[], .func (.func 97) #[] #[]] (by kernel_rfl) ?_
  simp only [Act.put, List.setIfInBounds_toArray, List.set_cons_succ, List.set_cons_zero]
  with_reducible refine wpList_built rfl 94 _ rfl #[vI 24346, vI 0, .func (.func 98) #[] #[], .func (.func 99) #[] #[]] (by kernel_rfl) ?_
  simp only [Act.put, List.setIfInBounds_toArray, List.set_cons_succ, List.set_cons_zero]
  with_reducible refine wpList_built rfl 94 _ rfl #[vI 18016, vI 1, .func (.func 100) #[] #[], .nilFunc] (by kernel_rfl) ?_
  simp only [Act.put, List.setIfInBounds_toArray, List.set_cons_succ, List.set_cons_zero]
  with_reducible refine wpList_built rfl 94 _ rfl #[vI 16944, vI 1, .func (.func 101) #[] #[], .func (.func 102) #[] #[]] (by kernel_rfl) ?_
  simp only [Act.put, List.setIfInBounds_toArray, List.set_cons_succ, List.set_cons_zero]
  with_reducible refine wpList_built rfl 94 _ rfl #[vI 18017, vI 1, .nilFunc, .func (.func 103) #[] #[]] (by kernel_rfl) ?_
  simp only [Act.put, List.setIfInBounds_toArray, List.set_cons_succ, List.set_cons_zero]
  with_reducible refine wpList_built rfl 94 _ rfl #[vI 18013, vI 1, .nilFunc, .func (.func 104) #[] #[]] (by kernel_rfl) ?_
  simp only [Act.put, List.setIfInBounds_toArray, List.set_cons_succ, List.set_cons_zero]
  with_reducible refine wpList_built rfl 132 _ rfl regCells (by kernel_rfl) ?_
  simp only [Act.put, List.setIfInBounds_toArray, List.set_cons_succ, List.set_cons_zero]
  with_reducible refine wpList_store_row rfl 132 _ _ rfl w.heap.size regCells rfl rfl 132 _ hrow reg_infA hC reg_one ?_
  go_wp2
  refine bodyPost_ret (results_cell_row rfl _ _ _ 132 _ (0, 0) _ rfl (setRow_heap _ _ _ _ _ _ hrow) Tryz.underlying132 rfl reg_infA) rfl ?_
  exact ⟨rfl, below_setRow HB (Nat.le_refl _)⟩
theorem reg_idx (w : World) : ∀ k : Nat, k < 7 → Sem.run Tryz.prog (Instr.index 132 (.agg regCells) (vI k)) w = .ok (reg k).val w
  | 0, _ => by kernel_rfl
  | 1, _ => by kernel_rfl
  | 2, _ => by kernel_rfl
  | 3, _ => by kernel_rfl
  | 4, _ => by kernel_rfl
  | 5, _ => by kernel_rfl
  | 6, _ => by kernel_rfl
  | k + 7, h => absurd h (by omega)
theorem reg_st {ops : Array Oper} {rest : List Oper} {o : Oper} {a : Act} {w : World} {Q : Exit → Act → World → Prop} (hgd : o.guard = none) (x y : Operand) (ho : o.op = .store 94 x y) (b : Nat) (hx : a.eval x = ptr b 0) (s : Rgt) (h1 : s.r.oneCell' = true) (h2 : s.w.oneCell' = true) (C : Array Value) (hC : C.size = 4) (hy : a.eval y = s.val) (hg : w.heap[b]? = some (.cells C 94))
    (h : wpList Tryz.prog ops Q rest (a.put o.dst undef) (w.setRow b s.row.toArray)) : wpList Tryz.prog ops Q (o :: rest) a w :=
  wpList_store_row hgd 94 x y ho b s.row.toArray hx hy 94 _ hg reg_inf hC (by simp [Rgt.row, h1, h2]; exact ⟨rfl, rfl⟩) h
theorem reg_ld {ops : Array Oper} {rest : List Oper} {o : Oper} {a : Act} {w : World} {Q : Exit → Act → World → Prop} (hgd : o.guard = none) (x : Operand) (ho : o.op = .load 94 x) (b : Nat) (hx : a.eval x = ptr b 0) (s : Rgt) (hg : w.heap[b]? = some (.cells s.row.toArray 94))
    (h : wpList Tryz.prog ops Q rest (a.put o.dst s.val) w) : wpList Tryz.prog ops Q (o :: rest) a w :=
  wpList_load_mid hgd 94 x ho b 0 hx s.row _ (fun j y hy => by rw [cell_of_row _ _ _ _ _ _ hg, Nat.zero_add]; simpa using hy) Tryz.underlying94 rfl reg_inf h
theorem reg_r1 : ∀ k, (reg k).r.oneCell' = true ∧ (reg k).w.oneCell' = true
  | 0 => ⟨rfl, rfl⟩
  | 1 => ⟨rfl, rfl⟩
  | 2 => ⟨rfl, rfl⟩
  | 3 => ⟨rfl, rfl⟩
  | 4 => ⟨rfl, rfl⟩
  | 5 => ⟨rfl, rfl⟩
  | 6 => ⟨rfl, rfl⟩
  | _ + 7 => ⟨rfl, rfl⟩
end Go.Proofs.YteklkololojamaaGreat
