/- The table of forms, and what allForms makes: a contract. -/
import Derived.Test.YtcmilajlngnibaaHld
import Derived.Laws.Tables
namespace Go.Proofs.Ytcmilajlngnibaa
open Go.RowKit

def fm0 : Fm := ⟨1, 0, 2675965952, 2432696320, 24, addImmT⟩
def fm1 : Fm := ⟨2, 0, 2669674496, 2332033024, 25, addRegT⟩
def fm2 : Fm := ⟨3, (-1), 2667577344, 2315255808, 26, logRegT⟩
def fm3 : Fm := ⟨4, (-1), 2675965952, 2449473536, 27, logImmT⟩
def fm4 : Fm := ⟨5, (-1), 2675965952, 2457862144, 28, movWideT⟩
def fm5 : Fm := ⟨6, (-1), 2680160256, 2470445056, 29, bitfieldT⟩
def fm6 : Fm := ⟨7, (-1), 4292931584, 2596282368, 30, shiftRegT⟩
def fm7 : Fm := ⟨8, 0, 4292870144, 2600468480, 31, mulT⟩
def fm8 : Fm := ⟨9, (-1), 4292933632, 2596276224, 32, divT⟩
def fm9 : Fm := ⟨10, (-1), 3219130368, 2592079872, 33, selT⟩
def fm10 : Fm := ⟨11, (-1), 520093696, 268435456, 34, adrT⟩
def fm11 : Fm := ⟨12, 0, 2080374784, 335544320, 35, bT⟩
def fm12 : Fm := ⟨13, 0, 4278190096, 1409286144, 36, bCondT⟩
def fm13 : Fm := ⟨14, 0, 4261412864, 3019898880, 37, cbzT⟩
def fm14 : Fm := ⟨15, 0, 2113929216, 905969664, 38, tbzT⟩
def fm15 : Fm := ⟨16, (-1), 4288674847, 3592355840, 39, brT⟩
def fm16 : Fm := ⟨17, 0, 4290772992, 4181721088, 40, atImmT⟩
def fm17 : Fm := ⟨18, 0, 4290772992, 4177526784, 40, atImmT⟩
def fm18 : Fm := ⟨19, 0, 4292930560, 4167067648, 41, atRegT⟩
def fm19 : Fm := ⟨20, 0, 4292930560, 4162873344, 41, atRegT⟩
def fm20 : Fm := ⟨21, 0, 4294966272, 3370122240, 42, rdRnT⟩
def fm21 : Fm := ⟨21, 1, 4294966272, 4173316096, 42, rdRnT⟩
def fm22 : Fm := ⟨22, 0, 4294966272, 3365927936, 42, rdRnT⟩
def fm23 : Fm := ⟨23, (-1), 4294933504, 3361700864, 43, ldxrT⟩
def fm24 : Fm := ⟨24, (-1), 4292901888, 3355474944, 44, stxrT⟩
def fm25 : Fm := ⟨25, 0, 4294967295, 3573759839, 45, nothingT⟩
def fm26 : Fm := ⟨26, 0, 4294966527, 3573759167, 46, dmbT⟩
def fm27 : Fm := ⟨26, 1, 4294966527, 3573759135, 46, dmbT⟩
def fm28 : Fm := ⟨27, 0, 4294967295, 3573759967, 45, nothingT⟩
def fm29 : Fm := ⟨28, 0, 4294967264, 3574297888, 47, rdT⟩
def fm30 : Fm := ⟨30, 0, 4294967264, 3574299424, 47, rdT⟩
def fm31 : Fm := ⟨29, 0, 4294967295, 3574101279, 45, nothingT⟩
def fm32 : Fm := ⟨31, 0, 4293918720, 3576692736, 48, systemT⟩
def fm33 : Fm := ⟨32, 0, 4293918720, 3574595584, 48, systemT⟩
def fm34 : Fm := ⟨33, 0, 4294963455, 3573760223, 49, msrMaskT⟩
def fm35 : Fm := ⟨33, 1, 4294963455, 3573760255, 49, msrMaskT⟩
def fm36 : Fm := ⟨34, 0, 4292870175, 3556769793, 50, callT⟩
def fm37 : Fm := ⟨35, 0, 4292870175, 3558866944, 50, callT⟩
def fm38 : Fm := ⟨36, 0, 4294967295, 3600745440, 45, nothingT⟩
def fm39 : Fm := ⟨37, 0, 4294967071, 3573751839, 51, hintT⟩
def formsA : List Fm := [fm0, fm1, fm2, fm3, fm4, fm5, fm6, fm7, fm8, fm9, fm10, fm11, fm12, fm13, fm14, fm15, fm16, fm17, fm18, fm19]
def formsB : List Fm := [fm20, fm21, fm22, fm23, fm24, fm25, fm26, fm27, fm28, fm29, fm30, fm31, fm32, fm33, fm34, fm35, fm36, fm37, fm38, fm39]
def forms : List Fm := formsA ++ formsB
def formCells : List Value := forms.flatMap Fm.cells
theorem wpList_built {P : Program} {ops : Array Oper} {rest : List Oper} {o : Oper} {a : Act} {w : World} {Q : Exit → Act → World → Prop} (hg : o.guard = none) (t : TypeId) (parts : Array (Nat × Operand)) (ho : o.op = .build t parts)
    (cs : Array Value) (hf : P.built t (parts.map fun (i, x) => (i, a.eval x)).toList = some cs)
    (h : wpList P ops Q rest (a.put o.dst (.agg cs)) w) : wpList P ops Q (o :: rest) a w :=
  wpList_build hg t parts ho (by rw [hf]; rfl) (by rw [hf]; exact h)
theorem info40 : (Try.prog.info? 40).map (·.size) = some formCells.toArray.size := by kernel_rfl
theorem forms_len : formCells.toArray.size = 200 := by kernel_rfl
theorem forms_one : formCells.toArray.all (·.oneCell') = true := by kernel_rfl

set_option maxRecDepth 10000 in
set_option maxHeartbeats 4000000 in
theorem allForms_c (w : World) :
    Calls Try.prog 13 #[] w fun e w' => e = .returned (.agg formCells.toArray) ∧ Below w.heap.size w w' := by
  go_enter Try.func13, Try.ntmps13
  go_upto_region 1 with fail
  have hrow := heap_alloc_new w (.cells Try.zeroCells40 40)
  have HB := Go.Proofs.Ytcmilajlngnibaa.below_alloc w (.cells Try.zeroCells40 40)
  generalize w.alloc (.cells Try.zeroCells40 40) = w1 at hrow HB ⊢
  refine wp_region_lit ?_

  with_reducible refine wpList_built rfl 39 _ rfl fm0.cells.toArray (by kernel_rfl) ?_
  simp only [Act.put, List.setIfInBounds_toArray, List.set_cons_succ, List.set_cons_zero]
  with_reducible refine wpList_built rfl 39 _ rfl fm1.cells.toArray (by kernel_rfl) ?_
  simp only [Act.put, List.setIfInBounds_toArray, List.set_cons_succ, List.set_cons_zero]
  with_reducible refine wpList_built rfl 39 _ rfl fm2.cells.toArray (by kernel_rfl) ?_
  simp only [Act.put, List.setIfInBounds_toArray, List.set_cons_succ, List.set_cons_zero]
  with_reducible refine wpList_built rfl 39 _ rfl fm3.cells.toArray (by kernel_rfl) ?_
  simp only [Act.put, List.setIfInBounds_toArray, List.set_cons_succ, List.set_cons_zero]
  with_reducible refine wpList_built rfl 39 _ rfl fm4.cells.toArray (by kernel_rfl) ?_
  simp only [Act.put, List.setIfInBounds_toArray, List.set_cons_succ, List.set_cons_zero]
  with_reducible refine wpList_built rfl 39 _ rfl fm5.cells.toArray (by kernel_rfl) ?_
  simp only [Act.put, List.setIfInBounds_toArray, List.set_cons_succ, List.set_cons_zero]
  with_reducible refine wpList_built rfl 39 _ rfl fm6.cells.toArray (by kernel_rfl) ?_
  simp only [Act.put, List.setIfInBounds_toArray, List.set_cons_succ, List.set_cons_zero]
  with_reducible refine wpList_built rfl 39 _ rfl fm7.cells.toArray (by kernel_rfl) ?_
  simp only [Act.put, List.setIfInBounds_toArray, List.set_cons_succ, List.set_cons_zero]
  with_reducible refine wpList_built rfl 39 _ rfl fm8.cells.toArray (by kernel_rfl) ?_
  simp only [Act.put, List.setIfInBounds_toArray, List.set_cons_succ, List.set_cons_zero]
  with_reducible refine wpList_built rfl 39 _ rfl fm9.cells.toArray (by kernel_rfl) ?_
  simp only [Act.put, List.setIfInBounds_toArray, List.set_cons_succ, List.set_cons_zero]
  with_reducible refine wpList_built rfl 39 _ rfl fm10.cells.toArray (by kernel_rfl) ?_
  simp only [Act.put, List.setIfInBounds_toArray, List.set_cons_succ, List.set_cons_zero]
  with_reducible refine wpList_built rfl 39 _ rfl fm11.cells.toArray (by kernel_rfl) ?_
  simp only [Act.put, List.setIfInBounds_toArray, List.set_cons_succ, List.set_cons_zero]
  with_reducible refine wpList_built rfl 39 _ rfl fm12.cells.toArray (by kernel_rfl) ?_
  simp only [Act.put, List.setIfInBounds_toArray, List.set_cons_succ, List.set_cons_zero]
  with_reducible refine wpList_built rfl 39 _ rfl fm13.cells.toArray (by kernel_rfl) ?_
  simp only [Act.put, List.setIfInBounds_toArray, List.set_cons_succ, List.set_cons_zero]
  with_reducible refine wpList_built rfl 39 _ rfl fm14.cells.toArray (by kernel_rfl) ?_
  simp only [Act.put, List.setIfInBounds_toArray, List.set_cons_succ, List.set_cons_zero]
  with_reducible refine wpList_built rfl 39 _ rfl fm15.cells.toArray (by kernel_rfl) ?_
  simp only [Act.put, List.setIfInBounds_toArray, List.set_cons_succ, List.set_cons_zero]
  with_reducible refine wpList_built rfl 39 _ rfl fm16.cells.toArray (by kernel_rfl) ?_
  simp only [Act.put, List.setIfInBounds_toArray, List.set_cons_succ, List.set_cons_zero]
  with_reducible refine wpList_built rfl 39 _ rfl fm17.cells.toArray (by kernel_rfl) ?_
  simp only [Act.put, List.setIfInBounds_toArray, List.set_cons_succ, List.set_cons_zero]
  with_reducible refine wpList_built rfl 39 _ rfl fm18.cells.toArray (by kernel_rfl) ?_
  simp only [Act.put, List.setIfInBounds_toArray, List.set_cons_succ, List.set_cons_zero]
  with_reducible refine wpList_built rfl 39 _ rfl fm19.cells.toArray (by kernel_rfl) ?_
  simp only [Act.put, List.setIfInBounds_toArray, List.set_cons_succ, List.set_cons_zero]
  with_reducible refine wpList_built rfl 39 _ rfl fm20.cells.toArray (by kernel_rfl) ?_
  simp only [Act.put, List.setIfInBounds_toArray, List.set_cons_succ, List.set_cons_zero]
  with_reducible refine wpList_built rfl 39 _ rfl fm21.cells.toArray (by kernel_rfl) ?_
  simp only [Act.put, List.setIfInBounds_toArray, List.set_cons_succ, List.set_cons_zero]
  with_reducible refine wpList_built rfl 39 _ rfl fm22.cells.toArray (by kernel_rfl) ?_
  simp only [Act.put, List.setIfInBounds_toArray, List.set_cons_succ, List.set_cons_zero]
  with_reducible refine wpList_built rfl 39 _ rfl fm23.cells.toArray (by kernel_rfl) ?_
  simp only [Act.put, List.setIfInBounds_toArray, List.set_cons_succ, List.set_cons_zero]
  with_reducible refine wpList_built rfl 39 _ rfl fm24.cells.toArray (by kernel_rfl) ?_
  simp only [Act.put, List.setIfInBounds_toArray, List.set_cons_succ, List.set_cons_zero]
  with_reducible refine wpList_built rfl 39 _ rfl fm25.cells.toArray (by kernel_rfl) ?_
  simp only [Act.put, List.setIfInBounds_toArray, List.set_cons_succ, List.set_cons_zero]
  with_reducible refine wpList_built rfl 39 _ rfl fm26.cells.toArray (by kernel_rfl) ?_
  simp only [Act.put, List.setIfInBounds_toArray, List.set_cons_succ, List.set_cons_zero]
  with_reducible refine wpList_built rfl 39 _ rfl fm27.cells.toArray (by kernel_rfl) ?_
  simp only [Act.put, List.setIfInBounds_toArray, List.set_cons_succ, List.set_cons_zero]
  with_reducible refine wpList_built rfl 39 _ rfl fm28.cells.toArray (by kernel_rfl) ?_
  simp only [Act.put, List.setIfInBounds_toArray, List.set_cons_succ, List.set_cons_zero]
  with_reducible refine wpList_built rfl 39 _ rfl fm29.cells.toArray (by kernel_rfl) ?_
  simp only [Act.put, List.setIfInBounds_toArray, List.set_cons_succ, List.set_cons_zero]
  with_reducible refine wpList_built rfl 39 _ rfl fm30.cells.toArray (by kernel_rfl) ?_
  simp only [Act.put, List.setIfInBounds_toArray, List.set_cons_succ, List.set_cons_zero]
  with_reducible refine wpList_built rfl 39 _ rfl fm31.cells.toArray (by kernel_rfl) ?_
  simp only [Act.put, List.setIfInBounds_toArray, List.set_cons_succ, List.set_cons_zero]
  with_reducible refine wpList_built rfl 39 _ rfl fm32.cells.toArray (by kernel_rfl) ?_
  simp only [Act.put, List.setIfInBounds_toArray, List.set_cons_succ, List.set_cons_zero]
  with_reducible refine wpList_built rfl 39 _ rfl fm33.cells.toArray (by kernel_rfl) ?_
  simp only [Act.put, List.setIfInBounds_toArray, List.set_cons_succ, List.set_cons_zero]
  with_reducible refine wpList_built rfl 39 _ rfl fm34.cells.toArray (by kernel_rfl) ?_
  simp only [Act.put, List.setIfInBounds_toArray, List.set_cons_succ, List.set_cons_zero]
  with_reducible refine wpList_built rfl 39 _ rfl fm35.cells.toArray (by kernel_rfl) ?_
  simp only [Act.put, List.setIfInBounds_toArray, List.set_cons_succ, List.set_cons_zero]
  with_reducible refine wpList_built rfl 39 _ rfl fm36.cells.toArray (by kernel_rfl) ?_
  simp only [Act.put, List.setIfInBounds_toArray, List.set_cons_succ, List.set_cons_zero]
  with_reducible refine wpList_built rfl 39 _ rfl fm37.cells.toArray (by kernel_rfl) ?_
  simp only [Act.put, List.setIfInBounds_toArray, List.set_cons_succ, List.set_cons_zero]
  with_reducible refine wpList_built rfl 39 _ rfl fm38.cells.toArray (by kernel_rfl) ?_
  simp only [Act.put, List.setIfInBounds_toArray, List.set_cons_succ, List.set_cons_zero]
  with_reducible refine wpList_built rfl 39 _ rfl fm39.cells.toArray (by kernel_rfl) ?_
  simp only [Act.put, List.setIfInBounds_toArray, List.set_cons_succ, List.set_cons_zero]
  with_reducible refine wpList_built rfl 40 _ rfl formCells.toArray (by kernel_rfl) ?_
  simp only [Act.put, List.setIfInBounds_toArray, List.set_cons_succ, List.set_cons_zero]
  with_reducible refine wpList_store_row rfl 40 _ _ rfl w.heap.size formCells.toArray rfl rfl 40 _ hrow info40 (by kernel_rfl) forms_one ?_
  go_wp2
  refine bodyPost_ret (results_cell_row rfl _ _ _ 40 _ (0, 0) _ rfl (setRow_heap _ _ _ _ _ _ hrow) Try.underlying40 rfl info40) rfl ?_
  exact ⟨rfl, below_setRow HB (Nat.le_refl _)⟩
end Go.Proofs.Ytcmilajlngnibaa
