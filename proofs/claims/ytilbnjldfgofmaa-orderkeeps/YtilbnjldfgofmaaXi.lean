/- Ia, Ib, Ic, Id, Ie of the seat, joined. -/
import Derived.Test.YtilbnjldfgofmaaPa
import Derived.Test.YtilbnjldfgofmaaBx
import Derived.Deep.MidRow
import Derived.Maps.AppendAt
import Derived.OwnWalk
import Derived.Great.BuildSlice
/- Kinds, and what they have. -/
namespace Go.Proofs.Ytilbnjldfgofmaa
open Go.RowKit
set_option linter.unusedVariables false
set_option linter.unusedSimpArgs false
set_option maxRecDepth 8000

theorem has_c (s : Value) (p m : Int) (hs : s.oneCell' = true) (w : World) : Calls Try.prog 78 #[.agg #[s, vI p], vI m] w fun e w' => e = .returned (.bool (bits .and .i64 p m != 0)) ∧ Below w.heap.size w w' := by
  go_enter Try.func78, Try.ntmps78
  go_wp2
  go_ret
  exact ⟨rfl, below_alloc _ _⟩
theorem hasK_c (k m : Int) (w : World) : Calls Try.prog 78 #[.agg #[.string (nameV k), vI (partsV k)], vI m] w fun e w' => e = .returned (.bool (hasP k m)) ∧ Below w.heap.size w w' := has_c _ _ _ rfl w
def shCells : Array Value := #[.string ⟨#[]⟩, vI 0, .string ⟨#[99, 111, 110, 115, 116]⟩, vI 48, .string ⟨#[103, 101, 116, 120]⟩, vI 33, .string ⟨#[115, 101, 116, 120]⟩, vI 3, .string ⟨#[103, 101, 116, 115, 112]⟩, vI 32, .string ⟨#[115, 101, 116, 115, 112]⟩, vI 2, .string ⟨#[103, 101, 116, 102]⟩, vI 33, .string ⟨#[115, 101, 116, 102]⟩, vI 3, .string ⟨#[97, 108, 117]⟩, vI 39, .string ⟨#[108, 111, 97, 100]⟩, vI 106, .string ⟨#[115, 116, 111, 114, 101]⟩, vI 78, .string ⟨#[108, 111, 97, 100, 101, 120]⟩, vI 106, .string ⟨#[115, 116, 111, 114, 101, 101, 120]⟩, vI 110, .string ⟨#[102, 101, 110, 99, 101]⟩, vI 1, .string ⟨#[97, 116]⟩, vI 16, .string ⟨#[101, 120, 105, 116, 105, 102]⟩, vI 82, .string ⟨#[101, 120, 105, 116]⟩, vI 208, .string ⟨#[101, 120, 105, 116, 116, 111]⟩, vI 194, .string ⟨#[103, 117, 101, 115, 116]⟩, vI 208]
theorem sh_info : (Try.prog.info? 95).map (·.size) = some shCells.size := by kernel_rfl
theorem sh_one : shCells.all (·.oneCell') = true := by kernel_rfl
theorem sh_inf : (Try.prog.info? 89).map (·.size) = some 2 := by kernel_rfl
theorem sh_inf2 (a b : Value) : (Try.prog.info? 89).map (·.size) = some (#[a, b] : Array Value).size := sh_inf
theorem two_size (a b c d : Value) : (#[a, b] : Array Value).size = (#[c, d] : Array Value).size := rfl
theorem sh_one2 (a : ByteArray) (b : Int) : (#[.string a, vI b] : Array Value).all (·.oneCell') = true := by simp [Value.oneCell']
theorem sh_at : ∀ k : Nat, 1 ≤ k → k ≤ 18 → shCells[k * 2]? = some (.string (nameV (k : Int))) ∧ shCells[k * 2 + 1]? = some (vI (partsV (k : Int)))
  | 0, h, _ => absurd h (by decide)
  | 1, _, _ => ⟨by kernel_rfl, by kernel_rfl⟩
  | 2, _, _ => ⟨by kernel_rfl, by kernel_rfl⟩
  | 3, _, _ => ⟨by kernel_rfl, by kernel_rfl⟩
  | 4, _, _ => ⟨by kernel_rfl, by kernel_rfl⟩
  | 5, _, _ => ⟨by kernel_rfl, by kernel_rfl⟩
  | 6, _, _ => ⟨by kernel_rfl, by kernel_rfl⟩
  | 7, _, _ => ⟨by kernel_rfl, by kernel_rfl⟩
  | 8, _, _ => ⟨by kernel_rfl, by kernel_rfl⟩
  | 9, _, _ => ⟨by kernel_rfl, by kernel_rfl⟩
  | 10, _, _ => ⟨by kernel_rfl, by kernel_rfl⟩
  | 11, _, _ => ⟨by kernel_rfl, by kernel_rfl⟩
  | 12, _, _ => ⟨by kernel_rfl, by kernel_rfl⟩
  | 13, _, _ => ⟨by kernel_rfl, by kernel_rfl⟩
  | 14, _, _ => ⟨by kernel_rfl, by kernel_rfl⟩
  | 15, _, _ => ⟨by kernel_rfl, by kernel_rfl⟩
  | 16, _, _ => ⟨by kernel_rfl, by kernel_rfl⟩
  | 17, _, _ => ⟨by kernel_rfl, by kernel_rfl⟩
  | 18, _, _ => ⟨by kernel_rfl, by kernel_rfl⟩
  | k + 19, _, h => absurd h (by omega)
set_option maxHeartbeats 4000000 in
theorem shapeOf_c (k : Int) (hk : isK k = true) (w : World) : Calls Try.prog 77 #[vI k] w fun e w' => e = .returned (.agg #[.string (nameV k), vI (partsV k)]) ∧ Below w.heap.size w w' := by
  simp only [isK, Bool.and_eq_true, decide_eq_true_eq] at hk
  obtain ⟨n, rfl⟩ : ∃ n : Nat, k = n := ⟨k.toNat, by omega⟩
  obtain ⟨h1, h2⟩ := hk
  obtain ⟨z1, z2⟩ := sh_at n (by omega) (by omega)
  have h3 : (n : Int) < 19 := by omega
  have H := (has_none w).new 89 #[.string ⟨#[]⟩, vI 0]
  go_enter Try.func77, Try.ntmps77
  go_upto_region 1 with fail
  generalize hw1 : World.alloc _ _ = w1 at H ⊢
  refine wp_region_lit ?_
  with_reducible refine wpList_built rfl 89 _ rfl #[.string ⟨#[99, 111, 110, 115, 116]⟩, vI 48] (by kernel_rfl) ?_
  simp only [Act.put, List.setIfInBounds_toArray, List.set_cons_succ, List.set_cons_zero]
  with_reducible refine wpList_built rfl 89 _ rfl #[.string ⟨#[103, 101, 116, 120]⟩, vI 33] (by kernel_rfl) ?_
  simp only [Act.put, List.setIfInBounds_toArray, List.set_cons_succ, List.set_cons_zero]
  with_reducible refine wpList_built rfl 89 _ rfl #[.string ⟨#[115, 101, 116, 120]⟩, vI 3] (by kernel_rfl) ?_
  simp only [Act.put, List.setIfInBounds_toArray, List.set_cons_succ, List.set_cons_zero]
  with_reducible refine wpList_built rfl 89 _ rfl #[.string ⟨#[103, 101, 116, 115, 112]⟩, vI 32] (by kernel_rfl) ?_
  simp only [Act.put, List.setIfInBounds_toArray, List.set_cons_succ, List.set_cons_zero]
  with_reducible refine wpList_built rfl 89 _ rfl #[.string ⟨#[115, 101, 116, 115, 112]⟩, vI 2] (by kernel_rfl) ?_
  simp only [Act.put, List.setIfInBounds_toArray, List.set_cons_succ, List.set_cons_zero]
  with_reducible refine wpList_built rfl 89 _ rfl #[.string ⟨#[103, 101, 116, 102]⟩, vI 33] (by kernel_rfl) ?_
  simp only [Act.put, List.setIfInBounds_toArray, List.set_cons_succ, List.set_cons_zero]
  with_reducible refine wpList_built rfl 89 _ rfl #[.string ⟨#[115, 101, 116, 102]⟩, vI 3] (by kernel_rfl) ?_
  simp only [Act.put, List.setIfInBounds_toArray, List.set_cons_succ, List.set_cons_zero]
  with_reducible refine wpList_built rfl 89 _ rfl #[.string ⟨#[97, 108, 117]⟩, vI 39] (by kernel_rfl) ?_
  simp only [Act.put, List.setIfInBounds_toArray, List.set_cons_succ, List.set_cons_zero]
  with_reducible refine wpList_built rfl 89 _ rfl #[.string ⟨#[108, 111, 97, 100]⟩, vI 106] (by kernel_rfl) ?_
  simp only [Act.put, List.setIfInBounds_toArray, List.set_cons_succ, List.set_cons_zero]
  with_reducible refine wpList_built rfl 89 _ rfl #[.string ⟨#[115, 116, 111, 114, 101]⟩, vI 78] (by kernel_rfl) ?_
  simp only [Act.put, List.setIfInBounds_toArray, List.set_cons_succ, List.set_cons_zero]
  with_reducible refine wpList_built rfl 89 _ rfl #[.string ⟨#[108, 111, 97, 100, 101, 120]⟩, vI 106] (by kernel_rfl) ?_
  simp only [Act.put, List.setIfInBounds_toArray, List.set_cons_succ, List.set_cons_zero]
  with_reducible refine wpList_built rfl 89 _ rfl #[.string ⟨#[115, 116, 111, 114, 101, 101, 120]⟩, vI 110] (by kernel_rfl) ?_
  simp only [Act.put, List.setIfInBounds_toArray, List.set_cons_succ, List.set_cons_zero]
  with_reducible refine wpList_built rfl 89 _ rfl #[.string ⟨#[102, 101, 110, 99, 101]⟩, vI 1] (by kernel_rfl) ?_
  simp only [Act.put, List.setIfInBounds_toArray, List.set_cons_succ, List.set_cons_zero]
  with_reducible refine wpList_built rfl 89 _ rfl #[.string ⟨#[97, 116]⟩, vI 16] (by kernel_rfl) ?_
  simp only [Act.put, List.setIfInBounds_toArray, List.set_cons_succ, List.set_cons_zero]
  with_reducible refine wpList_built rfl 89 _ rfl #[.string ⟨#[101, 120, 105, 116, 105, 102]⟩, vI 82] (by kernel_rfl) ?_
  simp only [Act.put, List.setIfInBounds_toArray, List.set_cons_succ, List.set_cons_zero]
  with_reducible refine wpList_built rfl 89 _ rfl #[.string ⟨#[101, 120, 105, 116]⟩, vI 208] (by kernel_rfl) ?_
  simp only [Act.put, List.setIfInBounds_toArray, List.set_cons_succ, List.set_cons_zero]
  with_reducible refine wpList_built rfl 89 _ rfl #[.string ⟨#[101, 120, 105, 116, 116, 111]⟩, vI 194] (by kernel_rfl) ?_
  simp only [Act.put, List.setIfInBounds_toArray, List.set_cons_succ, List.set_cons_zero]
  with_reducible refine wpList_built rfl 89 _ rfl #[.string ⟨#[103, 117, 101, 115, 116]⟩, vI 208] (by kernel_rfl) ?_
  simp only [Act.put, List.setIfInBounds_toArray, List.set_cons_succ, List.set_cons_zero]
  with_reducible refine wpList_built rfl 95 _ rfl shCells (by kernel_rfl) ?_
  simp only [Act.put, List.setIfInBounds_toArray, List.set_cons_succ, List.set_cons_zero]
  go_wp2_with (first | ((with_reducible refine wpList_store_new H rfl 95 _ _ rfl shCells rfl rfl sh_info (by kernel_rfl) sh_one ?_); clear H; intro w2 H; replace z1 := H.at List.mem_cons_self _ _ z1; replace z2 := H.at List.mem_cons_self _ _ z2; have z3 := H.get (List.mem_cons_of_mem _ List.mem_cons_self); try simp only [Act.put]) | ((with_reducible refine wpList_store_row rfl 89 _ _ rfl w.heap.size #[.string (nameV (n : Int)), vI (partsV (n : Int))] rfl rfl 89 _ z3 (sh_inf2 _ _) (two_size _ _ _ _) (sh_one2 _ _) ?_); try simp only [Act.put]))
  refine bodyPost_ret (results_cell_row rfl _ _ _ 89 #[.string (nameV (n : Int)), vI (partsV (n : Int))] (0, 0) _ rfl (setRow_heap _ _ _ _ _ _ z3) Try.underlying89 rfl sh_inf) rfl ?_
  exact ⟨rfl, below_setRow H.below (Nat.le_refl _)⟩
theorem shapeOf_p (k : Int) (hk : isK k = false) (w : World) : Calls Try.prog 77 #[vI k] w fun e w' => e = .panicked pan ∧ Below w.heap.size w w' := by
  have hk' : k < 1 ∨ 19 ≤ k := by
    simp only [isK, Bool.and_eq_false_iff, decide_eq_false_iff_not] at hk
    omega
  clear hk
  have H := (has_none w).new 89 #[.string ⟨#[]⟩, vI 0]
  go_enter Try.func77, Try.ntmps77
  go_upto_region 1 with fail
  generalize hw1 : World.alloc _ _ = w1 at H ⊢
  refine wp_region_lit ?_
  with_reducible refine wpList_built rfl 89 _ rfl #[.string ⟨#[99, 111, 110, 115, 116]⟩, vI 48] (by kernel_rfl) ?_
  simp only [Act.put, List.setIfInBounds_toArray, List.set_cons_succ, List.set_cons_zero]
  with_reducible refine wpList_built rfl 89 _ rfl #[.string ⟨#[103, 101, 116, 120]⟩, vI 33] (by kernel_rfl) ?_
  simp only [Act.put, List.setIfInBounds_toArray, List.set_cons_succ, List.set_cons_zero]
  with_reducible refine wpList_built rfl 89 _ rfl #[.string ⟨#[115, 101, 116, 120]⟩, vI 3] (by kernel_rfl) ?_
  simp only [Act.put, List.setIfInBounds_toArray, List.set_cons_succ, List.set_cons_zero]
  with_reducible refine wpList_built rfl 89 _ rfl #[.string ⟨#[103, 101, 116, 115, 112]⟩, vI 32] (by kernel_rfl) ?_
  simp only [Act.put, List.setIfInBounds_toArray, List.set_cons_succ, List.set_cons_zero]
  with_reducible refine wpList_built rfl 89 _ rfl #[.string ⟨#[115, 101, 116, 115, 112]⟩, vI 2] (by kernel_rfl) ?_
  simp only [Act.put, List.setIfInBounds_toArray, List.set_cons_succ, List.set_cons_zero]
  with_reducible refine wpList_built rfl 89 _ rfl #[.string ⟨#[103, 101, 116, 102]⟩, vI 33] (by kernel_rfl) ?_
  simp only [Act.put, List.setIfInBounds_toArray, List.set_cons_succ, List.set_cons_zero]
  with_reducible refine wpList_built rfl 89 _ rfl #[.string ⟨#[115, 101, 116, 102]⟩, vI 3] (by kernel_rfl) ?_
  simp only [Act.put, List.setIfInBounds_toArray, List.set_cons_succ, List.set_cons_zero]
  with_reducible refine wpList_built rfl 89 _ rfl #[.string ⟨#[97, 108, 117]⟩, vI 39] (by kernel_rfl) ?_
  simp only [Act.put, List.setIfInBounds_toArray, List.set_cons_succ, List.set_cons_zero]
  with_reducible refine wpList_built rfl 89 _ rfl #[.string ⟨#[108, 111, 97, 100]⟩, vI 106] (by kernel_rfl) ?_
  simp only [Act.put, List.setIfInBounds_toArray, List.set_cons_succ, List.set_cons_zero]
  with_reducible refine wpList_built rfl 89 _ rfl #[.string ⟨#[115, 116, 111, 114, 101]⟩, vI 78] (by kernel_rfl) ?_
  simp only [Act.put, List.setIfInBounds_toArray, List.set_cons_succ, List.set_cons_zero]
  with_reducible refine wpList_built rfl 89 _ rfl #[.string ⟨#[108, 111, 97, 100, 101, 120]⟩, vI 106] (by kernel_rfl) ?_
  simp only [Act.put, List.setIfInBounds_toArray, List.set_cons_succ, List.set_cons_zero]
  with_reducible refine wpList_built rfl 89 _ rfl #[.string ⟨#[115, 116, 111, 114, 101, 101, 120]⟩, vI 110] (by kernel_rfl) ?_
  simp only [Act.put, List.setIfInBounds_toArray, List.set_cons_succ, List.set_cons_zero]
  with_reducible refine wpList_built rfl 89 _ rfl #[.string ⟨#[102, 101, 110, 99, 101]⟩, vI 1] (by kernel_rfl) ?_
  simp only [Act.put, List.setIfInBounds_toArray, List.set_cons_succ, List.set_cons_zero]
  with_reducible refine wpList_built rfl 89 _ rfl #[.string ⟨#[97, 116]⟩, vI 16] (by kernel_rfl) ?_
  simp only [Act.put, List.setIfInBounds_toArray, List.set_cons_succ, List.set_cons_zero]
  with_reducible refine wpList_built rfl 89 _ rfl #[.string ⟨#[101, 120, 105, 116, 105, 102]⟩, vI 82] (by kernel_rfl) ?_
  simp only [Act.put, List.setIfInBounds_toArray, List.set_cons_succ, List.set_cons_zero]
  with_reducible refine wpList_built rfl 89 _ rfl #[.string ⟨#[101, 120, 105, 116]⟩, vI 208] (by kernel_rfl) ?_
  simp only [Act.put, List.setIfInBounds_toArray, List.set_cons_succ, List.set_cons_zero]
  with_reducible refine wpList_built rfl 89 _ rfl #[.string ⟨#[101, 120, 105, 116, 116, 111]⟩, vI 194] (by kernel_rfl) ?_
  simp only [Act.put, List.setIfInBounds_toArray, List.set_cons_succ, List.set_cons_zero]
  with_reducible refine wpList_built rfl 89 _ rfl #[.string ⟨#[103, 117, 101, 115, 116]⟩, vI 208] (by kernel_rfl) ?_
  simp only [Act.put, List.setIfInBounds_toArray, List.set_cons_succ, List.set_cons_zero]
  with_reducible refine wpList_built rfl 95 _ rfl shCells (by kernel_rfl) ?_
  simp only [Act.put, List.setIfInBounds_toArray, List.set_cons_succ, List.set_cons_zero]
  go_wp2_with (first | ((with_reducible refine wpList_store_new H rfl 95 _ _ rfl shCells rfl rfl sh_info (by kernel_rfl) sh_one ?_); clear H; intro w2 H; try simp only [Act.put]))
  all_goals first | exact ⟨rfl, rfl, H.below⟩ | (exfalso; simp_all; omega)
end Go.Proofs.Ytilbnjldfgofmaa
/- Operations that are right by themselves. -/
namespace Go.Proofs.Ytilbnjldfgofmaa
open Go.RowKit
set_option linter.unusedVariables false
set_option linter.unusedSimpArgs false
set_option maxRecDepth 8000

@[go_sem] theorem hp1_1 : hasP 1 1 = false := by kernel_rfl
@[go_sem] theorem hp1_2 : hasP 1 2 = false := by kernel_rfl
@[go_sem] theorem hp1_4 : hasP 1 4 = false := by kernel_rfl
@[go_sem] theorem hp1_8 : hasP 1 8 = false := by kernel_rfl
@[go_sem] theorem hp1_16 : hasP 1 16 = true := by kernel_rfl
@[go_sem] theorem hp1_32 : hasP 1 32 = true := by kernel_rfl
@[go_sem] theorem hp1_64 : hasP 1 64 = false := by kernel_rfl
@[go_sem] theorem hp1_128 : hasP 1 128 = false := by kernel_rfl
@[go_sem] theorem hp2_1 : hasP 2 1 = true := by kernel_rfl
@[go_sem] theorem hp2_2 : hasP 2 2 = false := by kernel_rfl
@[go_sem] theorem hp2_4 : hasP 2 4 = false := by kernel_rfl
@[go_sem] theorem hp2_8 : hasP 2 8 = false := by kernel_rfl
@[go_sem] theorem hp2_16 : hasP 2 16 = false := by kernel_rfl
@[go_sem] theorem hp2_32 : hasP 2 32 = true := by kernel_rfl
@[go_sem] theorem hp2_64 : hasP 2 64 = false := by kernel_rfl
@[go_sem] theorem hp2_128 : hasP 2 128 = false := by kernel_rfl
@[go_sem] theorem hp3_1 : hasP 3 1 = true := by kernel_rfl
@[go_sem] theorem hp3_2 : hasP 3 2 = true := by kernel_rfl
@[go_sem] theorem hp3_4 : hasP 3 4 = false := by kernel_rfl
@[go_sem] theorem hp3_8 : hasP 3 8 = false := by kernel_rfl
@[go_sem] theorem hp3_16 : hasP 3 16 = false := by kernel_rfl
@[go_sem] theorem hp3_32 : hasP 3 32 = false := by kernel_rfl
@[go_sem] theorem hp3_64 : hasP 3 64 = false := by kernel_rfl
@[go_sem] theorem hp3_128 : hasP 3 128 = false := by kernel_rfl
@[go_sem] theorem hp4_1 : hasP 4 1 = false := by kernel_rfl
@[go_sem] theorem hp4_2 : hasP 4 2 = false := by kernel_rfl
@[go_sem] theorem hp4_4 : hasP 4 4 = false := by kernel_rfl
@[go_sem] theorem hp4_8 : hasP 4 8 = false := by kernel_rfl
@[go_sem] theorem hp4_16 : hasP 4 16 = false := by kernel_rfl
@[go_sem] theorem hp4_32 : hasP 4 32 = true := by kernel_rfl
@[go_sem] theorem hp4_64 : hasP 4 64 = false := by kernel_rfl
@[go_sem] theorem hp4_128 : hasP 4 128 = false := by kernel_rfl
@[go_sem] theorem hp5_1 : hasP 5 1 = false := by kernel_rfl
@[go_sem] theorem hp5_2 : hasP 5 2 = true := by kernel_rfl
@[go_sem] theorem hp5_4 : hasP 5 4 = false := by kernel_rfl
@[go_sem] theorem hp5_8 : hasP 5 8 = false := by kernel_rfl
@[go_sem] theorem hp5_16 : hasP 5 16 = false := by kernel_rfl
@[go_sem] theorem hp5_32 : hasP 5 32 = false := by kernel_rfl
@[go_sem] theorem hp5_64 : hasP 5 64 = false := by kernel_rfl
@[go_sem] theorem hp5_128 : hasP 5 128 = false := by kernel_rfl
@[go_sem] theorem hp6_1 : hasP 6 1 = true := by kernel_rfl
@[go_sem] theorem hp6_2 : hasP 6 2 = false := by kernel_rfl
@[go_sem] theorem hp6_4 : hasP 6 4 = false := by kernel_rfl
@[go_sem] theorem hp6_8 : hasP 6 8 = false := by kernel_rfl
@[go_sem] theorem hp6_16 : hasP 6 16 = false := by kernel_rfl
@[go_sem] theorem hp6_32 : hasP 6 32 = true := by kernel_rfl
@[go_sem] theorem hp6_64 : hasP 6 64 = false := by kernel_rfl
@[go_sem] theorem hp6_128 : hasP 6 128 = false := by kernel_rfl
@[go_sem] theorem hp7_1 : hasP 7 1 = true := by kernel_rfl
@[go_sem] theorem hp7_2 : hasP 7 2 = true := by kernel_rfl
@[go_sem] theorem hp7_4 : hasP 7 4 = false := by kernel_rfl
@[go_sem] theorem hp7_8 : hasP 7 8 = false := by kernel_rfl
@[go_sem] theorem hp7_16 : hasP 7 16 = false := by kernel_rfl
@[go_sem] theorem hp7_32 : hasP 7 32 = false := by kernel_rfl
@[go_sem] theorem hp7_64 : hasP 7 64 = false := by kernel_rfl
@[go_sem] theorem hp7_128 : hasP 7 128 = false := by kernel_rfl
@[go_sem] theorem hp8_1 : hasP 8 1 = true := by kernel_rfl
@[go_sem] theorem hp8_2 : hasP 8 2 = true := by kernel_rfl
@[go_sem] theorem hp8_4 : hasP 8 4 = true := by kernel_rfl
@[go_sem] theorem hp8_8 : hasP 8 8 = false := by kernel_rfl
@[go_sem] theorem hp8_16 : hasP 8 16 = false := by kernel_rfl
@[go_sem] theorem hp8_32 : hasP 8 32 = true := by kernel_rfl
@[go_sem] theorem hp8_64 : hasP 8 64 = false := by kernel_rfl
@[go_sem] theorem hp8_128 : hasP 8 128 = false := by kernel_rfl
@[go_sem] theorem hp9_1 : hasP 9 1 = false := by kernel_rfl
@[go_sem] theorem hp9_2 : hasP 9 2 = true := by kernel_rfl
@[go_sem] theorem hp9_4 : hasP 9 4 = false := by kernel_rfl
@[go_sem] theorem hp9_8 : hasP 9 8 = true := by kernel_rfl
@[go_sem] theorem hp9_16 : hasP 9 16 = false := by kernel_rfl
@[go_sem] theorem hp9_32 : hasP 9 32 = true := by kernel_rfl
@[go_sem] theorem hp9_64 : hasP 9 64 = true := by kernel_rfl
@[go_sem] theorem hp9_128 : hasP 9 128 = false := by kernel_rfl
@[go_sem] theorem hp10_1 : hasP 10 1 = false := by kernel_rfl
@[go_sem] theorem hp10_2 : hasP 10 2 = true := by kernel_rfl
@[go_sem] theorem hp10_4 : hasP 10 4 = true := by kernel_rfl
@[go_sem] theorem hp10_8 : hasP 10 8 = true := by kernel_rfl
@[go_sem] theorem hp10_16 : hasP 10 16 = false := by kernel_rfl
@[go_sem] theorem hp10_32 : hasP 10 32 = false := by kernel_rfl
@[go_sem] theorem hp10_64 : hasP 10 64 = true := by kernel_rfl
@[go_sem] theorem hp10_128 : hasP 10 128 = false := by kernel_rfl
@[go_sem] theorem hp11_1 : hasP 11 1 = false := by kernel_rfl
@[go_sem] theorem hp11_2 : hasP 11 2 = true := by kernel_rfl
@[go_sem] theorem hp11_4 : hasP 11 4 = false := by kernel_rfl
@[go_sem] theorem hp11_8 : hasP 11 8 = true := by kernel_rfl
@[go_sem] theorem hp11_16 : hasP 11 16 = false := by kernel_rfl
@[go_sem] theorem hp11_32 : hasP 11 32 = true := by kernel_rfl
@[go_sem] theorem hp11_64 : hasP 11 64 = true := by kernel_rfl
@[go_sem] theorem hp11_128 : hasP 11 128 = false := by kernel_rfl
@[go_sem] theorem hp12_1 : hasP 12 1 = false := by kernel_rfl
@[go_sem] theorem hp12_2 : hasP 12 2 = true := by kernel_rfl
@[go_sem] theorem hp12_4 : hasP 12 4 = true := by kernel_rfl
@[go_sem] theorem hp12_8 : hasP 12 8 = true := by kernel_rfl
@[go_sem] theorem hp12_16 : hasP 12 16 = false := by kernel_rfl
@[go_sem] theorem hp12_32 : hasP 12 32 = true := by kernel_rfl
@[go_sem] theorem hp12_64 : hasP 12 64 = true := by kernel_rfl
@[go_sem] theorem hp12_128 : hasP 12 128 = false := by kernel_rfl
@[go_sem] theorem hp13_1 : hasP 13 1 = true := by kernel_rfl
@[go_sem] theorem hp13_2 : hasP 13 2 = false := by kernel_rfl
@[go_sem] theorem hp13_4 : hasP 13 4 = false := by kernel_rfl
@[go_sem] theorem hp13_8 : hasP 13 8 = false := by kernel_rfl
@[go_sem] theorem hp13_16 : hasP 13 16 = false := by kernel_rfl
@[go_sem] theorem hp13_32 : hasP 13 32 = false := by kernel_rfl
@[go_sem] theorem hp13_64 : hasP 13 64 = false := by kernel_rfl
@[go_sem] theorem hp13_128 : hasP 13 128 = false := by kernel_rfl
@[go_sem] theorem hp14_1 : hasP 14 1 = false := by kernel_rfl
@[go_sem] theorem hp14_2 : hasP 14 2 = false := by kernel_rfl
@[go_sem] theorem hp14_4 : hasP 14 4 = false := by kernel_rfl
@[go_sem] theorem hp14_8 : hasP 14 8 = false := by kernel_rfl
@[go_sem] theorem hp14_16 : hasP 14 16 = true := by kernel_rfl
@[go_sem] theorem hp14_32 : hasP 14 32 = false := by kernel_rfl
@[go_sem] theorem hp14_64 : hasP 14 64 = false := by kernel_rfl
@[go_sem] theorem hp14_128 : hasP 14 128 = false := by kernel_rfl
@[go_sem] theorem hp15_1 : hasP 15 1 = false := by kernel_rfl
@[go_sem] theorem hp15_2 : hasP 15 2 = true := by kernel_rfl
@[go_sem] theorem hp15_4 : hasP 15 4 = false := by kernel_rfl
@[go_sem] theorem hp15_8 : hasP 15 8 = false := by kernel_rfl
@[go_sem] theorem hp15_16 : hasP 15 16 = true := by kernel_rfl
@[go_sem] theorem hp15_32 : hasP 15 32 = false := by kernel_rfl
@[go_sem] theorem hp15_64 : hasP 15 64 = true := by kernel_rfl
@[go_sem] theorem hp15_128 : hasP 15 128 = false := by kernel_rfl
@[go_sem] theorem hp16_1 : hasP 16 1 = false := by kernel_rfl
@[go_sem] theorem hp16_2 : hasP 16 2 = false := by kernel_rfl
@[go_sem] theorem hp16_4 : hasP 16 4 = false := by kernel_rfl
@[go_sem] theorem hp16_8 : hasP 16 8 = false := by kernel_rfl
@[go_sem] theorem hp16_16 : hasP 16 16 = true := by kernel_rfl
@[go_sem] theorem hp16_32 : hasP 16 32 = false := by kernel_rfl
@[go_sem] theorem hp16_64 : hasP 16 64 = true := by kernel_rfl
@[go_sem] theorem hp16_128 : hasP 16 128 = true := by kernel_rfl
@[go_sem] theorem hp17_1 : hasP 17 1 = false := by kernel_rfl
@[go_sem] theorem hp17_2 : hasP 17 2 = true := by kernel_rfl
@[go_sem] theorem hp17_4 : hasP 17 4 = false := by kernel_rfl
@[go_sem] theorem hp17_8 : hasP 17 8 = false := by kernel_rfl
@[go_sem] theorem hp17_16 : hasP 17 16 = false := by kernel_rfl
@[go_sem] theorem hp17_32 : hasP 17 32 = false := by kernel_rfl
@[go_sem] theorem hp17_64 : hasP 17 64 = true := by kernel_rfl
@[go_sem] theorem hp17_128 : hasP 17 128 = true := by kernel_rfl
@[go_sem] theorem hp18_1 : hasP 18 1 = false := by kernel_rfl
@[go_sem] theorem hp18_2 : hasP 18 2 = false := by kernel_rfl
@[go_sem] theorem hp18_4 : hasP 18 4 = false := by kernel_rfl
@[go_sem] theorem hp18_8 : hasP 18 8 = false := by kernel_rfl
@[go_sem] theorem hp18_16 : hasP 18 16 = true := by kernel_rfl
@[go_sem] theorem hp18_32 : hasP 18 32 = false := by kernel_rfl
@[go_sem] theorem hp18_64 : hasP 18 64 = true := by kernel_rfl
@[go_sem] theorem hp18_128 : hasP 18 128 = true := by kernel_rfl

theorem r_bool {a b : Bool} (h : a = b) : Ending.returned (.bool a) = .returned (.bool b) := by rw [h]
theorem op_inf (o : Opr) : (Try.prog.info? 40).map (·.size) = some (opA o).size := by
  show (Try.prog.info? 40).map (·.size) = some 6
  kernel_rfl
theorem op_one (o : Opr) : (opA o).all (·.oneCell') = true := by simp [Value.oneCell']
set_option maxHeartbeats 4000000 in
theorem isInRange_c (o : Opr) (hi : 0 ≤ o.imm) (w : World) : Calls Try.prog 86 #[opV o] w fun e w' => e = .returned (.bool (rangeB o)) ∧ Below w.heap.size w w' := by
  have hb := below_alloc w (.cells (opA o) 40)
  go_enter Try.func86, Try.ntmps86
  go_wp2
  all_goals (go_ret; refine ⟨r_bool ?_, hb⟩; unfold rangeB; first | (simp_all; done) | (simp_all; omega) | (simp_all; rw [Int.tmod_eq_emod_of_nonneg hi]))
set_option maxHeartbeats 4000000 in
theorem isOpRight_c (o : Opr) (hk : isK o.kind = true) (hi : 0 ≤ o.imm) (w : World) : Calls Try.prog 79 #[opV o] w fun e w' => e = .returned (.bool (opB o)) ∧ Below w.heap.size w w' := by
  obtain ⟨kind, r, a, b, order, imm⟩ := o
  dsimp only at hk hi
  have H := (has_none w).new 40 (opA ⟨kind, r, a, b, order, imm⟩)
  have hr := fun w => isInRange_c ⟨kind, r, a, b, order, imm⟩ hi w
  rcases isK_cases hk with rfl | rfl | rfl | rfl | rfl | rfl | rfl | rfl | rfl | rfl | rfl | rfl | rfl | rfl | rfl | rfl | rfl | rfl
  all_goals
    go_enter Try.func79, Try.ntmps79
    go_wp2_with (first | (go_at_call 77; refine (shapeOf_c _ hk _).mono ?_; rintro e w1 ⟨rfl, B⟩; dsimp only; replace H := H.grow B; clear B) | ((with_reducible refine wpList_store_new H rfl 89 _ _ rfl _ rfl rfl (sh_inf2 _ _) (two_size _ _ _ _) (sh_one2 _ _) ?_); clear H; intro w1 H; try simp only [Act.put]) | ((with_reducible refine wpList_load_if rfl 89 _ rfl _ rfl 89 _ (0, 0) _ (H.get List.mem_cons_self) Try.underlying89 rfl (sh_inf2 _ _) ?_); simp only [Act.put, List.setIfInBounds_toArray, List.set_cons_succ, List.set_cons_zero]) | (go_at_call 78; refine (hasK_c _ _ _).mono ?_; rintro e w1 ⟨rfl, B⟩; dsimp only; replace H := H.grow B; clear B; have c1 : w1.cell? ⟨w.heap.size, 1, none⟩ = some (vI r) := H.at (by first | exact List.mem_cons_self | exact List.mem_cons_of_mem _ List.mem_cons_self | exact List.mem_cons_of_mem _ (List.mem_cons_of_mem _ List.mem_cons_self)) 1 _ rfl; have c2 : w1.cell? ⟨w.heap.size, 2, none⟩ = some (vI a) := H.at (by first | exact List.mem_cons_self | exact List.mem_cons_of_mem _ List.mem_cons_self | exact List.mem_cons_of_mem _ (List.mem_cons_of_mem _ List.mem_cons_self)) 2 _ rfl; have c3 : w1.cell? ⟨w.heap.size, 3, none⟩ = some (vI b) := H.at (by first | exact List.mem_cons_self | exact List.mem_cons_of_mem _ List.mem_cons_self | exact List.mem_cons_of_mem _ (List.mem_cons_of_mem _ List.mem_cons_self)) 3 _ rfl; have c4 : w1.cell? ⟨w.heap.size, 4, none⟩ = some (vI order) := H.at (by first | exact List.mem_cons_self | exact List.mem_cons_of_mem _ List.mem_cons_self | exact List.mem_cons_of_mem _ (List.mem_cons_of_mem _ List.mem_cons_self)) 4 _ rfl; have c5 : w1.cell? ⟨w.heap.size, 5, none⟩ = some (vU imm) := H.at (by first | exact List.mem_cons_self | exact List.mem_cons_of_mem _ List.mem_cons_self | exact List.mem_cons_of_mem _ (List.mem_cons_of_mem _ List.mem_cons_self)) 5 _ rfl; ) | ((with_reducible refine wpList_load_if rfl 40 _ rfl _ rfl 40 _ (0, 0) _ (H.get (List.mem_cons_of_mem _ List.mem_cons_self)) Try.underlying40 rfl (op_inf _) ?_); simp only [Act.put, List.setIfInBounds_toArray, List.set_cons_succ, List.set_cons_zero]) | (go_at_call 86; refine (hr _).mono ?_; rintro e w1 ⟨rfl, B⟩; dsimp only; replace H := H.grow B; clear B))
  all_goals (go_ret; refine ⟨r_bool ?_, H.below⟩; unfold opB; simp only [go_sem]; first | (simp_all; done))
end Go.Proofs.Ytilbnjldfgofmaa
/- What an operation uses. -/
namespace Go.Proofs.Ytilbnjldfgofmaa
open Go.RowKit
set_option linter.unusedVariables false
set_option linter.unusedSimpArgs false
set_option maxRecDepth 8000

structure RawI (w0 : World) (v : Value) (zs : List Int) : Prop where
  len : ∃ ao cap, v = .slice ao zs.length cap
  max : zs.length ≤ maxLen
  cell : 0 < zs.length → ∃ (ra : Addr) (cap : Nat), v = .slice (some ra) zs.length cap ∧ ∀ i x, zs[i]? = some x → (ra.add i).block < w0.heap.size ∧ w0.cell? (ra.add i) = some (vI x)
theorem RawI.grow {w w' : World} {v : Value} {zs : List Int} (h : RawI w v zs) (hb : Below w.heap.size w w') : RawI w' v zs :=
  ⟨h.len, h.max, fun h0 => by
    obtain ⟨ra, cap, e, hc⟩ := h.cell h0
    exact ⟨ra, cap, e, fun i x hx => ⟨Nat.lt_of_lt_of_le (hc i x hx).1 hb.size, by rw [hb.cell (hc i x hx).1]; exact (hc i x hx).2⟩⟩⟩
theorem RawI.nil (w : World) : RawI w (.slice none 0 0) [] := ⟨⟨none, 0, rfl⟩, Nat.zero_le _, fun h => by simp at h⟩
theorem info3 : (Try.prog.info? 3).map (fun i => (i.zero, i.size, i.bytes)) = some (some (vI 0), 1, 8) := by kernel_rfl
def flI (zs : List Int) : List Value := zs.map vI
theorem raw_own {w : World} {base : Nat} {v : Value} {zs : List Int} (h : w.ownsRow base 3 1 v zs.length (flI zs)) : RawI w v zs := by
  rcases h.2 with ⟨h1, h2⟩ | ⟨g, cap, cur, h1, _, h3, h4, h5, h6, h7⟩
  · have : zs = [] := List.length_eq_zero_iff.1 h2
    subst this
    rw [h1]
    exact RawI.nil w
  · rw [h1]
    refine ⟨⟨_, _, rfl⟩, by simp only [maxLen] at *; omega, fun _ => ⟨_, _, rfl, fun i x hx => ?_⟩⟩
    rw [Addr.add_mid, Nat.zero_add]
    refine ⟨lt_of_some h3, ?_⟩
    rw [cell_of_row _ _ _ _ _ _ h3]
    have hu : (flI zs)[i]? = some (vI x) := by simp [flI, hx]
    rw [← h7] at hu
    have hk := (List.getElem?_eq_some_iff.1 hu).1
    rw [List.length_take] at hk
    rw [List.getElem?_take, if_pos (by omega)] at hu
    simpa using hu
theorem run_one36 (p : Int) (w : World) : (Instr.buildSlice 45 1 #[(0, vI p)]).run Try.prog w = .ok (.slice (some ⟨w.heap.size, 0, none⟩) 1 1) (w.alloc (.cells #[vI p] 3)) := by
  obtain ⟨i, hi, hz, hs, hby⟩ := info_parts info3
  exact run_buildSlice (P := Try.prog) w 45 3 1 _ _ i (vI 0) Try.underlying45 hi hz (by rw [hs]; decide) (by rw [hs]; decide) (by rw [hs]; kernel_rfl)
theorem wpList_one36 {ops : Array Oper} {rest : List Oper} {o : Oper} {a : Act} {w : World} {Q : Exit → Act → World → Prop} (hg : o.guard = none) (y : Operand) (ho : o.op = .buildSlice 45 1 #[(0, y)]) (p : Int) (hy : a.eval y = vI p)
    (h : wpList Try.prog ops Q rest (a.put o.dst (.slice (some ⟨w.heap.size, 0, none⟩) 1 1)) (w.alloc (.cells #[vI p] 3))) : wpList Try.prog ops Q (o :: rest) a w :=
  wpList_plain hg fun _ hK => by
    unfold Oper.wp execOp
    simp only [ho, Sem.run_bind, List.map_toArray, List.map_cons, List.map_nil, hy, run_one36, Result.andThen_ok]
    exact hK _ _ h
theorem wpList_appI {ops : Array Oper} {rest : List Oper} {o : Oper} {a : Act} {w : World} {Q : Exit → Act → World → Prop} (hg : o.guard = none) (s x : Operand) (ho : o.op = .call { callee := .builtin .append, args := #[s, x], argTypes := #[45, 45] }) {base : Nat} {v : Value} {zs : List Int} {p : Int} (hs : a.eval s = v) (hx : a.eval x = .slice (some ⟨w.heap.size, 0, none⟩) 1 1) (O : w.ownsRow base 3 1 v zs.length (flI zs)) (hl : zs.length ≤ 1000) (hbase : base ≤ w.heap.size)
    (h : ∀ v' w', w'.ownsRow base 3 1 v' (zs ++ [p]).length (flI (zs ++ [p])) → Below base w w' → (∀ b, b < w.heap.size → v.ownBlock ≠ some b → w'.heap[b]? = w.heap[b]?) → wpList Try.prog ops Q rest (a.put o.dst v') w') : wpList Try.prog ops Q (o :: rest) a (w.alloc (.cells #[vI p] 3)) := by
  obtain ⟨i, hi, hz, hsz, hby⟩ := info_parts info3
  refine wpList_append_own _ hg s x 45 ho base 3 i (vI 0) 1 8 Try.underlying45 hi hz hsz hby rfl (by decide) v zs.length (flI zs) hs (O.alloc _) ⟨w.heap.size, 0, none⟩ 1 1 [vI p] hx rfl (cell_one_new _ _ _) (by simp [Value.oneCell']) (by simp only [maxLen]; omega) (by omega) (by simp; omega) ?_
  intro v' w' hR hgr _
  have hG : Goes (fun k => v.ownBlock = some k) (w.alloc (.cells #[vI p] 3)) w' := goes_grown hgr (fun k hk => hk)
  refine h v' w' (by simpa [flI] using hR) ?_ (fun b hb hn => ?_)
  · exact ((below_alloc w _).mono hbase).trans (hG.below (by simp; omega) (fun k hk => (O.lt k hk).1))
  · rw [hG.block b (by simp; omega) hn, Below.heap_alloc _ _ _ hb]
theorem Has.keep {w0 w w' : World} {L : List (Nat × Array Value × TypeId)} (h : Has w0 L w) (hb : Below w0.heap.size w w') (hk : ∀ p ∈ L, w'.heap[p.1]? = w.heap[p.1]?) : Has w0 L w' :=
  ⟨h.below.trans hb, fun p hp => ⟨(h.box p hp).1, by rw [hk p hp]; exact (h.box p hp).2⟩⟩
theorem own_none (w : World) (b : Nat) : w.ownsRow b 3 1 (.slice none 0 0) ([] : List Int).length (flI []) := ⟨rfl, .inl ⟨rfl, rfl⟩⟩

theorem own_grow {w w' : World} {base : Nat} {v : Value} {n : Nat} {xs : List Value} (h : w.ownsRow base 3 1 v n xs) (hb : Below w.heap.size w w') : w'.ownsRow base 3 1 v n xs :=
  own_of_block h (fun k hk => hb.block k (h.lt k hk).2)
theorem own_nb {w : World} {base b : Nat} {v : Value} {n : Nat} {xs : List Value} (h : w.ownsRow base 3 1 v n xs) {C : Array Value} {t : TypeId} (hg : w.heap[b]? = some (.cells C t)) (ht : t ≠ 3) : v.ownBlock ≠ some b := own_ne hg h ht
set_option maxHeartbeats 4000000 in
theorem uses_c (o : Opr) (hk : isK o.kind = true) (w : World) : Calls Try.prog 81 #[opV o] w fun e w' => ∃ v, e = .returned v ∧ w'.ownsRow w.heap.size 3 1 v (usesL o).length (flI (usesL o)) ∧ Below w.heap.size w w' := by
  obtain ⟨kind, r, a, b, order, imm⟩ := o
  dsimp only at hk
  have H := (has_none w).new 40 (opA ⟨kind, r, a, b, order, imm⟩)
  have O := own_none (w.alloc (.cells (opA ⟨kind, r, a, b, order, imm⟩) 40)) w.heap.size
  unfold usesL
  dsimp only
  cases hA : hasP kind 2 <;> cases hB : hasP kind 4
  all_goals
    go_enter Try.func81, Try.ntmps81
    go_upto_region 3 with (first | (go_at_call 77; refine (shapeOf_c _ hk _).mono ?_; rintro e w1 ⟨rfl, B⟩; dsimp only; replace H := H.grow B; clear B) | ((with_reducible refine wpList_store_new H rfl 89 _ _ rfl _ rfl rfl (sh_inf2 _ _) (two_size _ _ _ _) (sh_one2 _ _) ?_); clear H; intro w1 H; try simp only [Act.put]) | ((with_reducible refine wpList_load_if rfl 89 _ rfl _ rfl 89 _ (0, 0) _ (H.get List.mem_cons_self) Try.underlying89 rfl (sh_inf2 _ _) ?_); simp only [Act.put, List.setIfInBounds_toArray, List.set_cons_succ, List.set_cons_zero]))
    replace O := own_none w1 w.heap.size
  · go_wp2_with (first | ((with_reducible refine wpList_load_if rfl 89 _ rfl _ rfl 89 _ (0, 0) _ (H.get List.mem_cons_self) Try.underlying89 rfl (sh_inf2 _ _) ?_); simp only [Act.put, List.setIfInBounds_toArray, List.set_cons_succ, List.set_cons_zero]) | (go_at_call 78; refine (hasK_c _ _ _).mono ?_; rintro e w1 ⟨rfl, B⟩; dsimp only; replace O := own_grow O B; replace H := H.grow B; clear B; have c2 : w1.cell? ⟨w.heap.size, 2, none⟩ = some (vI a) := H.at (by first | exact List.mem_cons_self | exact List.mem_cons_of_mem _ List.mem_cons_self | exact List.mem_cons_of_mem _ (List.mem_cons_of_mem _ List.mem_cons_self)) 2 _ rfl; have c3 : w1.cell? ⟨w.heap.size, 3, none⟩ = some (vI b) := H.at (by first | exact List.mem_cons_self | exact List.mem_cons_of_mem _ List.mem_cons_self | exact List.mem_cons_of_mem _ (List.mem_cons_of_mem _ List.mem_cons_self)) 3 _ rfl; simp only [hA, hB]))
    go_ret
    exact ⟨_, rfl, O, H.below⟩
  · go_wp2_with (first | ((with_reducible refine wpList_load_if rfl 89 _ rfl _ rfl 89 _ (0, 0) _ (H.get List.mem_cons_self) Try.underlying89 rfl (sh_inf2 _ _) ?_); simp only [Act.put, List.setIfInBounds_toArray, List.set_cons_succ, List.set_cons_zero]) | (go_at_call 78; refine (hasK_c _ _ _).mono ?_; rintro e w1 ⟨rfl, B⟩; dsimp only; replace O := own_grow O B; replace H := H.grow B; clear B; have c2 : w1.cell? ⟨w.heap.size, 2, none⟩ = some (vI a) := H.at (by first | exact List.mem_cons_self | exact List.mem_cons_of_mem _ List.mem_cons_self | exact List.mem_cons_of_mem _ (List.mem_cons_of_mem _ List.mem_cons_self)) 2 _ rfl; have c3 : w1.cell? ⟨w.heap.size, 3, none⟩ = some (vI b) := H.at (by first | exact List.mem_cons_self | exact List.mem_cons_of_mem _ List.mem_cons_self | exact List.mem_cons_of_mem _ (List.mem_cons_of_mem _ List.mem_cons_self)) 3 _ rfl; simp only [hA, hB]) | ((with_reducible refine wpList_one36 rfl _ rfl b rfl ?_); simp only [Act.put, List.setIfInBounds_toArray, List.set_cons_succ, List.set_cons_zero]) | ((with_reducible refine wpList_appI (zs := []) rfl _ _ rfl rfl rfl O (by simp) H.below.size ?_); have n1 := own_nb O (H.get List.mem_cons_self) (by decide); have n2 := own_nb O (H.get (List.mem_cons_of_mem _ List.mem_cons_self)) (by decide); have l1 := lt_of_some (H.get List.mem_cons_self); have l2 := lt_of_some (H.get (List.mem_cons_of_mem _ List.mem_cons_self)); clear O; intro v w1 O B K; replace H := H.keep B (by intro p hp; rcases List.mem_cons.1 hp with rfl | hp; exact K _ l1 n1; obtain rfl := List.mem_singleton.1 hp; exact K _ l2 n2); clear B K; simp only [Act.put, List.setIfInBounds_toArray, List.set_cons_succ, List.set_cons_zero]))
    go_ret
    exact ⟨_, rfl, O, H.below⟩
  · go_wp2_with (first | ((with_reducible refine wpList_load_if rfl 89 _ rfl _ rfl 89 _ (0, 0) _ (H.get List.mem_cons_self) Try.underlying89 rfl (sh_inf2 _ _) ?_); simp only [Act.put, List.setIfInBounds_toArray, List.set_cons_succ, List.set_cons_zero]) | (go_at_call 78; refine (hasK_c _ _ _).mono ?_; rintro e w1 ⟨rfl, B⟩; dsimp only; replace O := own_grow O B; replace H := H.grow B; clear B; have c2 : w1.cell? ⟨w.heap.size, 2, none⟩ = some (vI a) := H.at (by first | exact List.mem_cons_self | exact List.mem_cons_of_mem _ List.mem_cons_self | exact List.mem_cons_of_mem _ (List.mem_cons_of_mem _ List.mem_cons_self)) 2 _ rfl; have c3 : w1.cell? ⟨w.heap.size, 3, none⟩ = some (vI b) := H.at (by first | exact List.mem_cons_self | exact List.mem_cons_of_mem _ List.mem_cons_self | exact List.mem_cons_of_mem _ (List.mem_cons_of_mem _ List.mem_cons_self)) 3 _ rfl; simp only [hA, hB]) | ((with_reducible refine wpList_one36 rfl _ rfl a rfl ?_); simp only [Act.put, List.setIfInBounds_toArray, List.set_cons_succ, List.set_cons_zero]) | ((with_reducible refine wpList_appI (zs := []) rfl _ _ rfl rfl rfl O (by simp) H.below.size ?_); have n1 := own_nb O (H.get List.mem_cons_self) (by decide); have n2 := own_nb O (H.get (List.mem_cons_of_mem _ List.mem_cons_self)) (by decide); have l1 := lt_of_some (H.get List.mem_cons_self); have l2 := lt_of_some (H.get (List.mem_cons_of_mem _ List.mem_cons_self)); clear O; intro v w1 O B K; replace H := H.keep B (by intro p hp; rcases List.mem_cons.1 hp with rfl | hp; exact K _ l1 n1; obtain rfl := List.mem_singleton.1 hp; exact K _ l2 n2); clear B K; simp only [Act.put, List.setIfInBounds_toArray, List.set_cons_succ, List.set_cons_zero]))
    go_ret
    exact ⟨_, rfl, O, H.below⟩
  · go_wp2_with (first | ((with_reducible refine wpList_load_if rfl 89 _ rfl _ rfl 89 _ (0, 0) _ (H.get List.mem_cons_self) Try.underlying89 rfl (sh_inf2 _ _) ?_); simp only [Act.put, List.setIfInBounds_toArray, List.set_cons_succ, List.set_cons_zero]) | (go_at_call 78; refine (hasK_c _ _ _).mono ?_; rintro e w1 ⟨rfl, B⟩; dsimp only; replace O := own_grow O B; replace H := H.grow B; clear B; have c2 : w1.cell? ⟨w.heap.size, 2, none⟩ = some (vI a) := H.at (by first | exact List.mem_cons_self | exact List.mem_cons_of_mem _ List.mem_cons_self | exact List.mem_cons_of_mem _ (List.mem_cons_of_mem _ List.mem_cons_self)) 2 _ rfl; have c3 : w1.cell? ⟨w.heap.size, 3, none⟩ = some (vI b) := H.at (by first | exact List.mem_cons_self | exact List.mem_cons_of_mem _ List.mem_cons_self | exact List.mem_cons_of_mem _ (List.mem_cons_of_mem _ List.mem_cons_self)) 3 _ rfl; simp only [hA, hB]) | ((with_reducible refine wpList_one36 rfl _ rfl a rfl ?_); simp only [Act.put, List.setIfInBounds_toArray, List.set_cons_succ, List.set_cons_zero]) | ((with_reducible refine wpList_one36 rfl _ rfl b rfl ?_); simp only [Act.put, List.setIfInBounds_toArray, List.set_cons_succ, List.set_cons_zero]) | ((with_reducible refine wpList_appI (zs := []) rfl _ _ rfl rfl rfl O (by simp) H.below.size ?_); have n1 := own_nb O (H.get List.mem_cons_self) (by decide); have n2 := own_nb O (H.get (List.mem_cons_of_mem _ List.mem_cons_self)) (by decide); have l1 := lt_of_some (H.get List.mem_cons_self); have l2 := lt_of_some (H.get (List.mem_cons_of_mem _ List.mem_cons_self)); clear O; intro v w1 O B K; replace H := H.keep B (by intro p hp; rcases List.mem_cons.1 hp with rfl | hp; exact K _ l1 n1; obtain rfl := List.mem_singleton.1 hp; exact K _ l2 n2); clear B K; simp only [Act.put, List.setIfInBounds_toArray, List.set_cons_succ, List.set_cons_zero]) | ((with_reducible refine wpList_appI (zs := [] ++ [a]) rfl _ _ rfl rfl rfl O (by simp) H.below.size ?_); have n1 := own_nb O (H.get List.mem_cons_self) (by decide); have n2 := own_nb O (H.get (List.mem_cons_of_mem _ List.mem_cons_self)) (by decide); have l1 := lt_of_some (H.get List.mem_cons_self); have l2 := lt_of_some (H.get (List.mem_cons_of_mem _ List.mem_cons_self)); clear O; intro v w1 O B K; replace H := H.keep B (by intro p hp; rcases List.mem_cons.1 hp with rfl | hp; exact K _ l1 n1; obtain rfl := List.mem_singleton.1 hp; exact K _ l2 n2); clear B K; simp only [Act.put, List.setIfInBounds_toArray, List.set_cons_succ, List.set_cons_zero]))
    go_ret
    exact ⟨_, rfl, O, H.below⟩
end Go.Proofs.Ytilbnjldfgofmaa
/- Are the values that are used ones that were defined? -/
namespace Go.Proofs.Ytilbnjldfgofmaa
open Go.RowKit
set_option linter.unusedVariables false
set_option linter.unusedSimpArgs false
set_option maxRecDepth 8000

/-- What is asked of the values that are used. -/
theorem defB_no {l : List Opr} {k : Nat} {p : Int} (h : p < 0 ∨ (k : Int) ≤ p) : defB l k p = false := by
  unfold defB
  rcases h with h | h
  · rw [decide_eq_false (by omega)]; rfl
  · rw [decide_eq_false (p := p < k) (by omega)]; simp
theorem defB_at {l : List Opr} {k p : Nat} {o : Opr} (hp : p < k) (ho : l[p]? = some o) : defB l k (p : Int) = hasP o.kind 32 := by
  unfold defB
  rw [decide_eq_true (by omega), decide_eq_true (by omega), Int.toNat_natCast, opAt_of ho]; rfl
set_option maxHeartbeats 4000000 in
theorem areDefined_c {w : World} {v u : Value} {zs : List Int} {l : List Opr} {k : Nat} (Z : RawI w v zs) (hz : zs.length ≤ 2) (O : Ops w u (l.take k)) (hk : k ≤ l.length) (hk5 : k ≤ 512) (hl : ∀ j, j < k → isK (opAt l j).kind = true) :
    Calls Try.prog 80 #[v, u] w fun e w' => e = .returned (.bool (zs.all (defB l k))) ∧ Below w.heap.size w w' := by
  obtain ⟨ao, cap, ev⟩ := Z.len
  obtain ⟨uo, ucap, eu⟩ := O.len
  have hlen : (l.take k).length = k := by rw [List.length_take]; omega
  rw [hlen] at eu
  have hkm : k ≤ 4398046511104 := by omega
  subst ev
  subst eu
  go_enter Try.func80, Try.ntmps80
  go_wp2
  go_loopw [9] (fun s9 wr => ∃ i : Nat, i ≤ zs.length ∧ s9 = vI i ∧ (zs.take i).all (defB l k) = true ∧ Below w.heap.size w wr) (fun s9 _ => ((zs.length : Int) - intOf s9).toNat)
  case atStart => exact ⟨0, Nat.zero_le _, rfl, rfl, Below.refl _ _⟩
  case round =>
    obtain ⟨i, hi, rfl, hall, hB⟩ := hrel
    by_cases hlt : (i : Int) < zs.length
    · have hil : i < zs.length := by omega
      obtain ⟨p, hp⟩ : ∃ p, zs[i]? = some p := ⟨zs[i], List.getElem?_eq_getElem hil⟩
      obtain ⟨ra, cap', ev', hc⟩ := (Z.grow hB).cell (by omega)
      cases ev'
      have c0 := (hc i p hp).2
      have hstep : ∀ b, defB l k p = b → ((zs.take (i + 1)).all (defB l k)) = b := fun b hb => by
        rw [List.take_add_one, hp, List.all_append, hall]; simp [hb]
      have hno : defB l k p = false → zs.all (defB l k) = false := fun h => by
        rw [List.all_eq_false]; exact ⟨p, List.mem_of_getElem? hp, by simp [h]⟩
      clear hc
      by_cases h0 : p < 0
      · have hd := hno (defB_no (.inl h0))
        go_wp2
        go_ret
        first | exact ⟨r_bool hd.symm, hB⟩ | exact ⟨rfl, hB⟩
      · by_cases h1 : (k : Int) ≤ p
        · have hd := hno (defB_no (.inr h1))
          go_wp2
          go_ret
          first | exact ⟨r_bool hd.symm, hB⟩ | exact ⟨rfl, hB⟩
        · obtain ⟨q, rfl⟩ : ∃ q : Nat, p = q := ⟨p.toNat, by omega⟩
          have hqk : q < k := by omega
          obtain ⟨o, ho⟩ : ∃ o, l[q]? = some o := ⟨l[q]'(by omega), List.getElem?_eq_getElem _⟩
          have hat : (l.take k)[q]? = some o := by rw [List.getElem?_take, if_pos hqk]; exact ho
          obtain ⟨ub, ucap', eu', hcu⟩ := (O.grow hB).cell (by omega)
          rw [hlen] at eu'
          cases eu'
          have d0 := (hcu q o hat).c0
          have hko := hl q hqk
          rw [opAt_of ho] at hko
          have hd := defB_at (l := l) hqk ho
          have h2 : (q : Int) < k := by omega
          clear hcu
          cases hv : hasP o.kind 32 with
          | false =>
            rw [hv] at hd
            have hd := hno hd
            go_wp2_with (first | (go_at_call 77; refine (shapeOf_c _ hko _).mono ?_; rintro e w1 ⟨rfl, B⟩; dsimp only; replace hB := below_then hB (Nat.le_refl _) B; clear B) | (go_at_call 78; refine (hasK_c _ _ _).mono ?_; rintro e w1 ⟨rfl, B⟩; dsimp only; replace hB := below_then hB (Nat.le_refl _) B; clear B; simp only [hv]))
            go_ret
            first | exact ⟨r_bool hd.symm, hB⟩ | exact ⟨rfl, hB⟩
          | true =>
            rw [hv] at hd
            have hd := hstep _ hd
            go_wp2_with (first | (go_at_call 77; refine (shapeOf_c _ hko _).mono ?_; rintro e w1 ⟨rfl, B⟩; dsimp only; replace hB := below_then hB (Nat.le_refl _) B; clear B) | (go_at_call 78; refine (hasK_c _ _ _).mono ?_; rintro e w1 ⟨rfl, B⟩; dsimp only; replace hB := below_then hB (Nat.le_refl _) B; clear B; simp only [hv]))
            go_roundw
            case rel => exact ⟨i + 1, by omega, by simp, hd, hB⟩
            case measure => simp [intOf]; omega
    · have hie : i = zs.length := by omega
      have hd : zs.all (defB l k) = true := by rw [hie, List.take_length] at hall; exact hall
      go_wp2
      go_ret
      first | exact ⟨r_bool hd.symm, hB⟩ | exact ⟨rfl, hB⟩
end Go.Proofs.Ytilbnjldfgofmaa
/- What is asked of a block beside its operations. -/
namespace Go.Proofs.Ytilbnjldfgofmaa
open Go.RowKit
set_option linter.unusedVariables false
set_option linter.unusedSimpArgs false
set_option maxRecDepth 8000

abbrev blA (pc words el : Int) (v : Value) : Array Value := #[vU pc, vI words, vI el, v]
abbrev blV (pc words el : Int) (v : Value) : Value := .agg (blA pc words el v)
theorem stood42 : Try.prog.stoodInHeld 40 = false := by kernel_rfl
theorem fields42 : Try.prog.underlying 40 = some (.struct (Try.prog.fieldsOf 40)) := by rw [Program.fieldsOf, Try.underlying40]
theorem guard42 : Try.prog.eqGuardType Try.prog.depth 40 = false := by kernel_rfl
theorem op_eq (c d : Opr) (w : World) : (Op.equalIn 10000 40 (opV c) (opV d)).run Try.prog w = .ok (decide (c = d)) w := by
  rw [run_equalIn_agg w 9999 40 _ _ fields42 stood42]
  obtain ⟨k, r, a, b, o, i⟩ := c
  obtain ⟨k', r', a', b', o', i'⟩ := d
  have e : decide ((⟨k, r, a, b, o, i⟩ : Opr) = ⟨k', r', a', b', o', i'⟩) = (k == k' && (r == r' && (a == a' && (b == b' && (o == o' && (i == i' && true)))))) := by
    rw [Bool.eq_iff_iff]
    simp only [decide_eq_true_eq, Opr.mk.injEq, Bool.and_eq_true, beq_iff_eq, and_true]
  rw [e, show (Try.prog.fieldsOf 40).toList = [⟨"Kind", 3, 0, false, "", "", 0⟩, ⟨"R", 3, 1, false, "", "", 8⟩, ⟨"A", 3, 2, false, "", "", 16⟩, ⟨"B", 3, 3, false, "", "", 24⟩, ⟨"Order", 3, 4, false, "", "", 32⟩, ⟨"Imm", 22, 5, false, "", "", 40⟩] by kernel_rfl]
  refine eqField w (by decide) ?_ (eqField w (by decide) ?_ (eqField w (by decide) ?_ (eqField w (by decide) ?_ (eqField w (by decide) ?_ (eqField w (by decide) ?_ (by simp [Op.eqFields]))))))
  · rw [part_c 3 (by decide) (opA ⟨k, r, a, b, o, i⟩) 0 (vI k) w rfl, Result.andThen_ok, part_c 3 (by decide) (opA ⟨k', r', a', b', o', i'⟩) 0 (vI k') w rfl, Result.andThen_ok, run_equalIn_int w 9998 3 .i64 .i64 _ _ Try.underlying3]
  · rw [part_c 3 (by decide) (opA ⟨k, r, a, b, o, i⟩) 1 (vI r) w rfl, Result.andThen_ok, part_c 3 (by decide) (opA ⟨k', r', a', b', o', i'⟩) 1 (vI r') w rfl, Result.andThen_ok, run_equalIn_int w 9998 3 .i64 .i64 _ _ Try.underlying3]
  · rw [part_c 3 (by decide) (opA ⟨k, r, a, b, o, i⟩) 2 (vI a) w rfl, Result.andThen_ok, part_c 3 (by decide) (opA ⟨k', r', a', b', o', i'⟩) 2 (vI a') w rfl, Result.andThen_ok, run_equalIn_int w 9998 3 .i64 .i64 _ _ Try.underlying3]
  · rw [part_c 3 (by decide) (opA ⟨k, r, a, b, o, i⟩) 3 (vI b) w rfl, Result.andThen_ok, part_c 3 (by decide) (opA ⟨k', r', a', b', o', i'⟩) 3 (vI b') w rfl, Result.andThen_ok, run_equalIn_int w 9998 3 .i64 .i64 _ _ Try.underlying3]
  · rw [part_c 3 (by decide) (opA ⟨k, r, a, b, o, i⟩) 4 (vI o) w rfl, Result.andThen_ok, part_c 3 (by decide) (opA ⟨k', r', a', b', o', i'⟩) 4 (vI o') w rfl, Result.andThen_ok, run_equalIn_int w 9998 3 .i64 .i64 _ _ Try.underlying3]
  · rw [part_c 22 (by decide) (opA ⟨k, r, a, b, o, i⟩) 5 (vU i) w rfl, Result.andThen_ok, part_c 22 (by decide) (opA ⟨k', r', a', b', o', i'⟩) 5 (vU i') w rfl, Result.andThen_ok, run_equalIn_int w 9998 22 .u64 .u64 _ _ Try.underlying22]
theorem run_eql42 (c d : Opr) (w : World) : (binOp .eql 40 (opV c) (opV d)).run Try.prog w = .ok (.bool (decide (c = d))) w := by
  rw [run_eql_struct, op_eq]; rfl
theorem upon_eql42 {C : World → Prop} {w : World} (c d : Opr) {o : Oper} {a : Act} {x y : Operand} (hC : C w) (ho : o.op = .binOp .eql 40 x y 40 := by rfl) (hx : a.eval x = opV c := by rfl) (hy : a.eval y = opV d := by rfl) : Chn.upon Try.prog (fun v w' => v = .bool (decide (c = d)) ∧ C w') w ((execOp a.eval o).run Try.prog w) := by
  unfold execOp
  simp only [ho, hx, hy, Sem.run_bind, run_eqGuard_agg w _ _ _ _ _ _ guard42, Result.andThen_ok, run_eql_struct, op_eq]
  exact ⟨rfl, hC⟩
structure HB (w : World) (pc words el : Int) (v : Value) (b : Nat) (x : World) : Prop where
  row : x.heap[b]? = some (.cells (blA pc words el v) 25)
  below : Below w.heap.size w x
theorem HB.grow {w x y : World} {pc words el : Int} {v : Value} {b : Nat} (h : HB w pc words el v b x) (hb : Below x.heap.size x y) : HB w pc words el v b y := ⟨by rw [hb.block _ (lt_of_some h.row)]; exact h.row, below_then h.below (Nat.le_refl _) hb⟩
theorem HB.c0 {w x : World} {pc words el : Int} {v : Value} {b : Nat} (h : HB w pc words el v b x) : x.cell? ⟨b, 0, none⟩ = some (vU pc) := by rw [cell_of_row _ _ _ _ _ _ h.row]; rfl
theorem HB.c3 {w x : World} {pc words el : Int} {v : Value} {b : Nat} (h : HB w pc words el v b x) : x.cell? ⟨b, 3, none⟩ = some v := by rw [cell_of_row _ _ _ _ _ _ h.row]; rfl
theorem head_no {pc words el : Int} {l : List Opr} (h : pc % 4 ≠ 0 ∨ words < 1 ∨ 16 < words ∨ (el ≠ 0 ∧ el ≠ 1) ∨ (l.length : Int) < 1 ∨ 512 < (l.length : Int)) : headB pc words el l = false := by
  unfold headB
  simp only [Bool.and_eq_false_iff, decide_eq_false_iff_not, beq_eq_false_iff_ne, Bool.or_eq_false_iff]
  omega
set_option maxHeartbeats 4000000 in
theorem head_c {w : World} {v : Value} {l : List Opr} (pc words el : Int) (hpc : 0 ≤ pc) (O : Ops w v l) : Calls Try.prog 64 #[blV pc words el v] w fun e w' => e = .returned (.bool (headB pc words el l)) ∧ Below w.heap.size w w' := by
  have hb := below_alloc w (.cells (blA pc words el v) 25)
  have O2 := O.grow hb
  obtain ⟨ao, cap, ev⟩ := O.len
  subst ev
  have e4 : pc.tmod 4 = pc % 4 := Int.tmod_eq_emod_of_nonneg hpc
  go_enter Try.func64, Try.ntmps64
  go_wp2
  all_goals (try subst_vars; try (go_ret; refine ⟨r_bool (head_no ?_).symm, hb⟩; first | omega | (simp_all; done) | (simp_all; omega)))
  · rename_i hl1 hl2
    have hl0 : 0 < l.length := by omega
    obtain ⟨ra, cap', ev', hc⟩ := O2.cell hl0
    cases ev'
    have ho := opAt_some hl0
    generalize hx : opAt l 0 = X at ho
    have A := hc 0 _ ho
    rw [Nat.zero_mul] at A
    clear hc O
    have hst : (fun _ x => OpAt x ra X ∧ HB w pc words 0 (Value.slice (some ra) l.length cap) w.heap.size x) 0 _ := ⟨A.grow (below_dr _), HB.grow ⟨heap_alloc_new _ _, hb⟩ (below_dr _)⟩
    refine Chn.wp_region_chainL (fun _ x => OpAt x ra X ∧ HB w pc words 0 (Value.slice (some ra) l.length cap) w.heap.size x) [] [0, 0, 0, 0, 0, 0, 0, 0, 0] [ptr w.heap.size 3, Value.slice (some ra) l.length cap, .pointer (some ra), opV X, ptr w.heap.size 0, vU pc, opV ⟨14, 0, 0, 0, 0, pc⟩, .bool (decide (X = ⟨14, 0, 0, 0, 0, pc⟩)), .bool (decide (X = ⟨14, 0, 0, 0, 0, pc⟩))] (by kernel_rfl) (by kernel_rfl) (by kernel_rfl) (by kernel_rfl) (by kernel_rfl) hst ?_
    clear hst
    refine ⟨fun j w1 hj hC => by exact Chn.upon_pure hC (fun F hF => by (go_simp <;> exact hF)), ?_⟩
    simp only [Act.put, List.setIfInBounds_toArray, List.set_cons_succ, List.set_cons_zero]
    refine ⟨fun j w1 hj hC => by
      have z := hC.2.c3
      exact Chn.upon_pure hC (fun F hF => by (go_simp <;> exact hF)), ?_⟩
    simp only [Act.put, List.setIfInBounds_toArray, List.set_cons_succ, List.set_cons_zero]
    refine ⟨fun j w1 hj hC => by exact Chn.upon_pure hC (fun F hF => by (go_simp <;> exact hF)), ?_⟩
    simp only [Act.put, List.setIfInBounds_toArray, List.set_cons_succ, List.set_cons_zero]
    refine ⟨fun j w1 hj hC => by
      exact upon_load42 hC.1 hC, ?_⟩
    simp only [Act.put, List.setIfInBounds_toArray, List.set_cons_succ, List.set_cons_zero]
    refine ⟨fun j w1 hj hC => by exact Chn.upon_pure hC (fun F hF => by (go_simp <;> exact hF)), ?_⟩
    simp only [Act.put, List.setIfInBounds_toArray, List.set_cons_succ, List.set_cons_zero]
    refine ⟨fun j w1 hj hC => by
      have z := hC.2.c0
      exact Chn.upon_pure hC (fun F hF => by (go_simp <;> exact hF)), ?_⟩
    simp only [Act.put, List.setIfInBounds_toArray, List.set_cons_succ, List.set_cons_zero]
    refine ⟨fun j w1 hj hC => by exact Chn.upon_pure hC (fun F hF => by (go_simp <;> exact hF)), ?_⟩
    simp only [Act.put, List.setIfInBounds_toArray, List.set_cons_succ, List.set_cons_zero]
    refine ⟨fun j w1 hj hC => by
      exact upon_eql42 _ _ hC, ?_⟩
    simp only [Act.put, List.setIfInBounds_toArray, List.set_cons_succ, List.set_cons_zero]
    refine ⟨fun j w1 hj hC => by exact Chn.upon_pure hC (fun F hF => by (go_simp <;> exact hF)), ?_⟩
    simp only [Act.put, List.setIfInBounds_toArray, List.set_cons_succ, List.set_cons_zero]
    intro w5 hC
    go_wp2
    go_ret
    refine ⟨r_bool ?_, hC.2.below⟩
    unfold headB
    rw [hx]
    simp_all
    try omega
  · rename_i hl1 hl2
    have hl0 : 0 < l.length := by omega
    obtain ⟨ra, cap', ev', hc⟩ := O2.cell hl0
    cases ev'
    have ho := opAt_some hl0
    generalize hx : opAt l 0 = X at ho
    have A := hc 0 _ ho
    rw [Nat.zero_mul] at A
    clear hc O
    have hst : (fun _ x => OpAt x ra X ∧ HB w pc words el (Value.slice (some ra) l.length cap) w.heap.size x) 0 _ := ⟨A.grow (below_dr _), HB.grow ⟨heap_alloc_new _ _, hb⟩ (below_dr _)⟩
    refine Chn.wp_region_chainL (fun _ x => OpAt x ra X ∧ HB w pc words el (Value.slice (some ra) l.length cap) w.heap.size x) [] [0, 0, 0, 0, 0, 0, 0, 0, 0] [ptr w.heap.size 3, Value.slice (some ra) l.length cap, .pointer (some ra), opV X, ptr w.heap.size 0, vU pc, opV ⟨14, 0, 0, 0, 0, pc⟩, .bool (decide (X = ⟨14, 0, 0, 0, 0, pc⟩)), .bool (decide (X = ⟨14, 0, 0, 0, 0, pc⟩))] (by kernel_rfl) (by kernel_rfl) (by kernel_rfl) (by kernel_rfl) (by kernel_rfl) hst ?_
    clear hst
    refine ⟨fun j w1 hj hC => by exact Chn.upon_pure hC (fun F hF => by (go_simp <;> exact hF)), ?_⟩
    simp only [Act.put, List.setIfInBounds_toArray, List.set_cons_succ, List.set_cons_zero]
    refine ⟨fun j w1 hj hC => by
      have z := hC.2.c3
      exact Chn.upon_pure hC (fun F hF => by (go_simp <;> exact hF)), ?_⟩
    simp only [Act.put, List.setIfInBounds_toArray, List.set_cons_succ, List.set_cons_zero]
    refine ⟨fun j w1 hj hC => by exact Chn.upon_pure hC (fun F hF => by (go_simp <;> exact hF)), ?_⟩
    simp only [Act.put, List.setIfInBounds_toArray, List.set_cons_succ, List.set_cons_zero]
    refine ⟨fun j w1 hj hC => by
      exact upon_load42 hC.1 hC, ?_⟩
    simp only [Act.put, List.setIfInBounds_toArray, List.set_cons_succ, List.set_cons_zero]
    refine ⟨fun j w1 hj hC => by exact Chn.upon_pure hC (fun F hF => by (go_simp <;> exact hF)), ?_⟩
    simp only [Act.put, List.setIfInBounds_toArray, List.set_cons_succ, List.set_cons_zero]
    refine ⟨fun j w1 hj hC => by
      have z := hC.2.c0
      exact Chn.upon_pure hC (fun F hF => by (go_simp <;> exact hF)), ?_⟩
    simp only [Act.put, List.setIfInBounds_toArray, List.set_cons_succ, List.set_cons_zero]
    refine ⟨fun j w1 hj hC => by exact Chn.upon_pure hC (fun F hF => by (go_simp <;> exact hF)), ?_⟩
    simp only [Act.put, List.setIfInBounds_toArray, List.set_cons_succ, List.set_cons_zero]
    refine ⟨fun j w1 hj hC => by
      exact upon_eql42 _ _ hC, ?_⟩
    simp only [Act.put, List.setIfInBounds_toArray, List.set_cons_succ, List.set_cons_zero]
    refine ⟨fun j w1 hj hC => by exact Chn.upon_pure hC (fun F hF => by (go_simp <;> exact hF)), ?_⟩
    simp only [Act.put, List.setIfInBounds_toArray, List.set_cons_succ, List.set_cons_zero]
    intro w5 hC
    go_wp2
    go_ret
    refine ⟨r_bool ?_, hC.2.below⟩
    unfold headB
    rw [hx]
    simp_all
    try omega
end Go.Proofs.Ytilbnjldfgofmaa
