/- Kinds, and what they have. -/
import Derived.Test.YtilhjbhhgpoajaaDoorPa
import Derived.Test.YtilhjbhhgpoajaaDoorBx
import Derived.Deep.MidRow
namespace Go.Proofs.YtilhjbhhgpoajaaDoor
open Go.RowKit
set_option linter.unusedVariables false
set_option linter.unusedSimpArgs false
set_option maxRecDepth 8000

theorem has_c (s : Value) (p m : Int) (hs : s.oneCell' = true) (w : World) : Calls Tryd.prog 22 #[.agg #[s, vI p], vI m] w fun e w' => e = .returned (.bool (bits .and .i64 p m != 0)) ∧ Below w.heap.size w w' := by
  go_enter Tryd.func22, Tryd.ntmps22
  go_wp2
  go_ret
  exact ⟨rfl, below_alloc _ _⟩
theorem hasK_c (k m : Int) (w : World) : Calls Tryd.prog 22 #[.agg #[.string (nameV k), vI (partsV k)], vI m] w fun e w' => e = .returned (.bool (hasP k m)) ∧ Below w.heap.size w w' := has_c _ _ _ rfl w
def shCells : Array Value := #[.string ⟨#[]⟩, vI 0, .string ⟨#[99, 111, 110, 115, 116]⟩, vI 48, .string ⟨#[103, 101, 116, 120]⟩, vI 33, .string ⟨#[115, 101, 116, 120]⟩, vI 3, .string ⟨#[103, 101, 116, 115, 112]⟩, vI 32, .string ⟨#[115, 101, 116, 115, 112]⟩, vI 2, .string ⟨#[103, 101, 116, 102]⟩, vI 33, .string ⟨#[115, 101, 116, 102]⟩, vI 3, .string ⟨#[97, 108, 117]⟩, vI 39, .string ⟨#[108, 111, 97, 100]⟩, vI 106, .string ⟨#[115, 116, 111, 114, 101]⟩, vI 78, .string ⟨#[108, 111, 97, 100, 101, 120]⟩, vI 106, .string ⟨#[115, 116, 111, 114, 101, 101, 120]⟩, vI 110, .string ⟨#[102, 101, 110, 99, 101]⟩, vI 1, .string ⟨#[97, 116]⟩, vI 16, .string ⟨#[101, 120, 105, 116, 105, 102]⟩, vI 82, .string ⟨#[101, 120, 105, 116]⟩, vI 208, .string ⟨#[101, 120, 105, 116, 116, 111]⟩, vI 194, .string ⟨#[103, 117, 101, 115, 116]⟩, vI 208]
theorem sh_info : (Tryd.prog.info? 71).map (·.size) = some shCells.size := by kernel_rfl
theorem sh_one : shCells.all (·.oneCell') = true := by kernel_rfl
theorem sh_inf : (Tryd.prog.info? 54).map (·.size) = some 2 := by kernel_rfl
theorem sh_inf2 (a b : Value) : (Tryd.prog.info? 54).map (·.size) = some (#[a, b] : Array Value).size := sh_inf
theorem two_size (a b c d : Value) : (#[a, b] : Array Value).size = (#[c, d] : Array Value).size := rfl
theorem sh_one2 (a : ByteArray) (b : Int) : (#[.string a, vI b] : Array Value).all (·.oneCell') = true := by simp [Value.oneCell']
theorem sh_at : ∀ k : Nat, 1 ≤ k → k ≤ 18 → shCells[k * 2]? = some (.string (nameV (k : Int))) ∧ shCells[k * 2 + 1]? = some (vI (partsV (k : Int)))
  | 0, h, _ => absurd h (by decide)
  | 1, _, _ => ⟨by kernel_rfl, by kernel_rfl⟩
  | 2, _, _ => ⟨by kernel_rfl, by kernel_rfl⟩
  | 3, _, _ => ⟨by kernel_rfl, by kernel_rfl⟩
  | 4, _, _ => ⟨by kernel_rfl, by kernel_rfl⟩
  | 5, _, _ => ⟨by kernel_rfl, by kernel_rfl⟩
  | 6, _, _ => ⟨by kernel_rfl, by kernel_rfl⟩
  | 7, _, _ => ⟨by kernel_rfl, by kernel_rfl⟩
  | 8, _, _ => ⟨by kernel_rfl, by kernel_rfl⟩
  | 9, _, _ => ⟨by kernel_rfl, by kernel_rfl⟩
  | 10, _, _ => ⟨by kernel_rfl, by kernel_rfl⟩
  | 11, _, _ => ⟨by kernel_rfl, by kernel_rfl⟩
  | 12, _, _ => ⟨by kernel_rfl, by kernel_rfl⟩
  | 13, _, _ => ⟨by kernel_rfl, by kernel_rfl⟩
  | 14, _, _ => ⟨by kernel_rfl, by kernel_rfl⟩
  | 15, _, _ => ⟨by kernel_rfl, by kernel_rfl⟩
  | 16, _, _ => ⟨by kernel_rfl, by kernel_rfl⟩
  | 17, _, _ => ⟨by kernel_rfl, by kernel_rfl⟩
  | 18, _, _ => ⟨by kernel_rfl, by kernel_rfl⟩
  | k + 19, _, h => absurd h (by omega)
set_option maxHeartbeats 4000000 in
theorem shapeOf_c (k : Int) (hk : isK k = true) (w : World) : Calls Tryd.prog 21 #[vI k] w fun e w' => e = .returned (.agg #[.string (nameV k), vI (partsV k)]) ∧ Below w.heap.size w w' := by
  simp only [isK, Bool.and_eq_true, decide_eq_true_eq] at hk
  obtain ⟨n, rfl⟩ : ∃ n : Nat, k = n := ⟨k.toNat, by omega⟩
  obtain ⟨h1, h2⟩ := hk
  obtain ⟨z1, z2⟩ := sh_at n (by omega) (by omega)
  have h3 : (n : Int) < 19 := by omega
  have H := (has_none w).new 54 #[.string ⟨#[]⟩, vI 0]
  go_enter Tryd.func21, Tryd.ntmps21
  go_upto_region 1 with fail
  generalize hw1 : World.alloc _ _ = w1 at H ⊢
  refine wp_region_lit ?_
  with_reducible refine wpList_built rfl 54 _ rfl #[.string ⟨#[99, 111, 110, 115, 116]⟩, vI 48] (by kernel_rfl) ?_
  simp only [Act.put, List.setIfInBounds_toArray, List.set_cons_succ, List.set_cons_zero]
  with_reducible refine wpList_built rfl 54 _ rfl #[.string ⟨#[103, 101, 116, 120]⟩, vI 33] (by kernel_rfl) ?_
  simp only [Act.put, List.setIfInBounds_toArray, List.set_cons_succ, List.set_cons_zero]
  with_reducible refine wpList_built rfl 54 _ rfl #[.string ⟨#[115, 101, 116, 120]⟩, vI 3] (by kernel_rfl) ?_
  simp only [Act.put, List.setIfInBounds_toArray, List.set_cons_succ, List.set_cons_zero]
  with_reducible refine wpList_built rfl 54 _ rfl #[.string ⟨#[103, 101, 116, 115, 112]⟩, vI 32] (by kernel_rfl) ?_
  simp only [Act.put, List.setIfInBounds_toArray, List.set_cons_succ, List.set_cons_zero]
  with_reducible refine wpList_built rfl 54 _ rfl #[.string ⟨#[115, 101, 116, 115, 112]⟩, vI 2] (by kernel_rfl) ?_
  simp only [Act.put, List.setIfInBounds_toArray, List.set_cons_succ, List.set_cons_zero]
  with_reducible refine wpList_built rfl 54 _ rfl #[.string ⟨#[103, 101, 116, 102]⟩, vI 33] (by kernel_rfl) ?_
  simp only [Act.put, List.setIfInBounds_toArray, List.set_cons_succ, List.set_cons_zero]
  with_reducible refine wpList_built rfl 54 _ rfl #[.string ⟨#[115, 101, 116, 102]⟩, vI 3] (by kernel_rfl) ?_
  simp only [Act.put, List.setIfInBounds_toArray, List.set_cons_succ, List.set_cons_zero]
  with_reducible refine wpList_built rfl 54 _ rfl #[.string ⟨#[97, 108, 117]⟩, vI 39] (by kernel_rfl) ?_
  simp only [Act.put, List.setIfInBounds_toArray, List.set_cons_succ, List.set_cons_zero]
  with_reducible refine wpList_built rfl 54 _ rfl #[.string ⟨#[108, 111, 97, 100]⟩, vI 106] (by kernel_rfl) ?_
  simp only [Act.put, List.setIfInBounds_toArray, List.set_cons_succ, List.set_cons_zero]
  with_reducible refine wpList_built rfl 54 _ rfl #[.string ⟨#[115, 116, 111, 114, 101]⟩, vI 78] (by kernel_rfl) ?_
  simp only [Act.put, List.setIfInBounds_toArray, List.set_cons_succ, List.set_cons_zero]
  with_reducible refine wpList_built rfl 54 _ rfl #[.string ⟨#[108, 111, 97, 100, 101, 120]⟩, vI 106] (by kernel_rfl) ?_
  simp only [Act.put, List.setIfInBounds_toArray, List.set_cons_succ, List.set_cons_zero]
  with_reducible refine wpList_built rfl 54 _ rfl #[.string ⟨#[115, 116, 111, 114, 101, 101, 120]⟩, vI 110] (by kernel_rfl) ?_
  simp only [Act.put, List.setIfInBounds_toArray, List.set_cons_succ, List.set_cons_zero]
  with_reducible refine wpList_built rfl 54 _ rfl #[.string ⟨#[102, 101, 110, 99, 101]⟩, vI 1] (by kernel_rfl) ?_
  simp only [Act.put, List.setIfInBounds_toArray, List.set_cons_succ, List.set_cons_zero]
  with_reducible refine wpList_built rfl 54 _ rfl #[.string ⟨#[97, 116]⟩, vI 16] (by kernel_rfl) ?_
  simp only [Act.put, List.setIfInBounds_toArray, List.set_cons_succ, List.set_cons_zero]
  with_reducible refine wpList_built rfl 54 _ rfl #[.string ⟨#[101, 120, 105, 116, 105, 102]⟩, vI 82] (by kernel_rfl) ?_
  simp only [Act.put, List.setIfInBounds_toArray, List.set_cons_succ, List.set_cons_zero]
  with_reducible refine wpList_built rfl 54 _ rfl #[.string ⟨#[101, 120, 105, 116]⟩, vI 208] (by kernel_rfl) ?_
  simp only [Act.put, List.setIfInBounds_toArray, List.set_cons_succ, List.set_cons_zero]
  with_reducible refine wpList_built rfl 54 _ rfl #[.string ⟨#[101, 120, 105, 116, 116, 111]⟩, vI 194] (by kernel_rfl) ?_
  simp only [Act.put, List.setIfInBounds_toArray, List.set_cons_succ, List.set_cons_zero]
  with_reducible refine wpList_built rfl 54 _ rfl #[.string ⟨#[103, 117, 101, 115, 116]⟩, vI 208] (by kernel_rfl) ?_
  simp only [Act.put, List.setIfInBounds_toArray, List.set_cons_succ, List.set_cons_zero]
  with_reducible refine wpList_built rfl 71 _ rfl shCells (by kernel_rfl) ?_
  simp only [Act.put, List.setIfInBounds_toArray, List.set_cons_succ, List.set_cons_zero]
  go_wp2_with (first | ((with_reducible refine wpList_store_new H rfl 71 _ _ rfl shCells rfl rfl sh_info (by kernel_rfl) sh_one ?_); clear H; intro w2 H; replace z1 := H.at List.mem_cons_self _ _ z1; replace z2 := H.at List.mem_cons_self _ _ z2; have z3 := H.get (List.mem_cons_of_mem _ List.mem_cons_self); try simp only [Act.put]) | ((with_reducible refine wpList_store_row rfl 54 _ _ rfl w.heap.size #[.string (nameV (n : Int)), vI (partsV (n : Int))] rfl rfl 54 _ z3 (sh_inf2 _ _) (two_size _ _ _ _) (sh_one2 _ _) ?_); try simp only [Act.put]))
  refine bodyPost_ret (results_cell_row rfl _ _ _ 54 #[.string (nameV (n : Int)), vI (partsV (n : Int))] (0, 0) _ rfl (setRow_heap _ _ _ _ _ _ z3) Tryd.underlying54 rfl sh_inf) rfl ?_
  exact ⟨rfl, below_setRow H.below (Nat.le_refl _)⟩
theorem shapeOf_p (k : Int) (hk : isK k = false) (w : World) : Calls Tryd.prog 21 #[vI k] w fun e w' => e = .panicked pan ∧ Below w.heap.size w w' := by
  have hk' : k < 1 ∨ 19 ≤ k := by
    simp only [isK, Bool.and_eq_false_iff, decide_eq_false_iff_not] at hk
    omega
  clear hk
  have H := (has_none w).new 54 #[.string ⟨#[]⟩, vI 0]
  go_enter Tryd.func21, Tryd.ntmps21
  go_upto_region 1 with fail
  generalize hw1 : World.alloc _ _ = w1 at H ⊢
  refine wp_region_lit ?_
  with_reducible refine wpList_built rfl 54 _ rfl #[.string ⟨#[99, 111, 110, 115, 116]⟩, vI 48] (by kernel_rfl) ?_
  simp only [Act.put, List.setIfInBounds_toArray, List.set_cons_succ, List.set_cons_zero]
  with_reducible refine wpList_built rfl 54 _ rfl #[.string ⟨#[103, 101, 116, 120]⟩, vI 33] (by kernel_rfl) ?_
  simp only [Act.put, List.setIfInBounds_toArray, List.set_cons_succ, List.set_cons_zero]
  with_reducible refine wpList_built rfl 54 _ rfl #[.string ⟨#[115, 101, 116, 120]⟩, vI 3] (by kernel_rfl) ?_
  simp only [Act.put, List.setIfInBounds_toArray, List.set_cons_succ, List.set_cons_zero]
  with_reducible refine wpList_built rfl 54 _ rfl #[.string ⟨#[103, 101, 116, 115, 112]⟩, vI 32] (by kernel_rfl) ?_
  simp only [Act.put, List.setIfInBounds_toArray, List.set_cons_succ, List.set_cons_zero]
  with_reducible refine wpList_built rfl 54 _ rfl #[.string ⟨#[115, 101, 116, 115, 112]⟩, vI 2] (by kernel_rfl) ?_
  simp only [Act.put, List.setIfInBounds_toArray, List.set_cons_succ, List.set_cons_zero]
  with_reducible refine wpList_built rfl 54 _ rfl #[.string ⟨#[103, 101, 116, 102]⟩, vI 33] (by kernel_rfl) ?_
  simp only [Act.put, List.setIfInBounds_toArray, List.set_cons_succ, List.set_cons_zero]
  with_reducible refine wpList_built rfl 54 _ rfl #[.string ⟨#[115, 101, 116, 102]⟩, vI 3] (by kernel_rfl) ?_
  simp only [Act.put, List.setIfInBounds_toArray, List.set_cons_succ, List.set_cons_zero]
  with_reducible refine wpList_built rfl 54 _ rfl #[.string ⟨#[97, 108, 117]⟩, vI 39] (by kernel_rfl) ?_
  simp only [Act.put, List.setIfInBounds_toArray, List.set_cons_succ, List.set_cons_zero]
  with_reducible refine wpList_built rfl 54 _ rfl #[.string ⟨#[108, 111, 97, 100]⟩, vI 106] (by kernel_rfl) ?_
  simp only [Act.put, List.setIfInBounds_toArray, List.set_cons_succ, List.set_cons_zero]
  with_reducible refine wpList_built rfl 54 _ rfl #[.string ⟨#[115, 116, 111, 114, 101]⟩, vI 78] (by kernel_rfl) ?_
  simp only [Act.put, List.setIfInBounds_toArray, List.set_cons_succ, List.set_cons_zero]
  with_reducible refine wpList_built rfl 54 _ rfl #[.string ⟨#[108, 111, 97, 100, 101, 120]⟩, vI 106] (by kernel_rfl) ?_
  simp only [Act.put, List.setIfInBounds_toArray, List.set_cons_succ, List.set_cons_zero]
  with_reducible refine wpList_built rfl 54 _ rfl #[.string ⟨#[115, 116, 111, 114, 101, 101, 120]⟩, vI 110] (by kernel_rfl) ?_
  simp only [Act.put, List.setIfInBounds_toArray, List.set_cons_succ, List.set_cons_zero]
  with_reducible refine wpList_built rfl 54 _ rfl #[.string ⟨#[102, 101, 110, 99, 101]⟩, vI 1] (by kernel_rfl) ?_
  simp only [Act.put, List.setIfInBounds_toArray, List.set_cons_succ, List.set_cons_zero]
  with_reducible refine wpList_built rfl 54 _ rfl #[.string ⟨#[97, 116]⟩, vI 16] (by kernel_rfl) ?_
  simp only [Act.put, List.setIfInBounds_toArray, List.set_cons_succ, List.set_cons_zero]
  with_reducible refine wpList_built rfl 54 _ rfl #[.string ⟨#[101, 120, 105, 116, 105, 102]⟩, vI 82] (by kernel_rfl) ?_
  simp only [Act.put, List.setIfInBounds_toArray, List.set_cons_succ, List.set_cons_zero]
  with_reducible refine wpList_built rfl 54 _ rfl #[.string ⟨#[101, 120, 105, 116]⟩, vI 208] (by kernel_rfl) ?_
  simp only [Act.put, List.setIfInBounds_toArray, List.set_cons_succ, List.set_cons_zero]
  with_reducible refine wpList_built rfl 54 _ rfl #[.string ⟨#[101, 120, 105, 116, 116, 111]⟩, vI 194] (by kernel_rfl) ?_
  simp only [Act.put, List.setIfInBounds_toArray, List.set_cons_succ, List.set_cons_zero]
  with_reducible refine wpList_built rfl 54 _ rfl #[.string ⟨#[103, 117, 101, 115, 116]⟩, vI 208] (by kernel_rfl) ?_
  simp only [Act.put, List.setIfInBounds_toArray, List.set_cons_succ, List.set_cons_zero]
  with_reducible refine wpList_built rfl 71 _ rfl shCells (by kernel_rfl) ?_
  simp only [Act.put, List.setIfInBounds_toArray, List.set_cons_succ, List.set_cons_zero]
  go_wp2_with (first | ((with_reducible refine wpList_store_new H rfl 71 _ _ rfl shCells rfl rfl sh_info (by kernel_rfl) sh_one ?_); clear H; intro w2 H; try simp only [Act.put]))
  all_goals first | exact ⟨rfl, rfl, H.below⟩ | (exfalso; simp_all; omega)
end Go.Proofs.YtilhjbhhgpoajaaDoor
