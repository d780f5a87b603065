/- The calls of a monitor. -/
import Derived.Test.YtgloemlbkkjcaaaMc
namespace Go.Proofs.Ytgloemlbkkjcaaa
open Go.RowKit
set_option linter.unusedVariables false
set_option linter.unusedSimpArgs false

def hasB (n core : Int) : Bool := decide (0 ≤ core) && decide (core < n)
theorem hasB_iff {n core : Int} : hasB n core = true ↔ 0 ≤ core ∧ core < n := by simp [hasB]
/-- What a call makes of a monitor; all else is as it was. -/
def MTurn (g : Nat) (n : Int) (ms : List Mk) (w w' : World) : Prop := MonAt g n ms w' ∧ Goes (fun k => k = g) w w'
theorem mturn_refl {g : Nat} {n : Int} {ms : List Mk} {w : World} (h : MonAt g n ms w) : MTurn g n ms w w := ⟨h, Goes.refl _ _⟩
theorem mturn_below {g : Nat} {n : Int} {ms : List Mk} {w w' : World} (h : MonAt g n ms w) (hb : Below w.heap.size w w') : MTurn g n ms w w' := ⟨h.grow hb, goes_of_below hb⟩
theorem MonAt.put {g : Nat} {n : Int} {ms ns : List Mk} {w w' : World} (h : MonAt g n ms w) (hb : Below w.heap.size w w') (hn : ns.length = 8) : MTurn g n ns w (w'.setRow g (seg (monC n ms) 1 (flatM ns)).toArray) := by
  rw [seg_mon n (by rw [hn, h.len])]
  exact ⟨⟨setRow_heap _ _ _ _ _ _ (h.grow hb).row, hn⟩, (goes_of_below hb).trans (goes_setRow (F := fun k => k = g) w' rfl _) fun _ _ e => e⟩
def newB (n : Int) : Bool := decide (1 ≤ n) && decide (n ≤ 8)
set_option maxRecDepth 4000 in
theorem new_no (n : Int) (w : World) (h : newB n = false) : Calls Try.prog 8 #[vI n] w fun e w' => e = .returned (.tuple #[.pointer none, vI 1]) ∧ w' = w := by
  by_cases h1 : n < 1
  · go_enter Try.func8, Try.ntmps8
    go_wp2
    go_ret2
    exact ⟨rfl, rfl⟩
  · have h2 : 8 < n := by simp [newB] at h; omega
    go_enter Try.func8, Try.ntmps8
    go_wp2
    go_ret2
    exact ⟨rfl, rfl⟩
set_option maxRecDepth 4000 in
theorem new_yes (n : Int) (w : World) (h : newB n = true) : Calls Try.prog 8 #[vI n] w fun e w' => e = .returned (.tuple #[ptr w.heap.size 0, vI 0]) ∧ MonAt w.heap.size n nilM w' ∧ Below w.heap.size w w' := by
  simp only [newB, Bool.and_eq_true, decide_eq_true_eq] at h
  have h1 : ¬ n < 1 := by omega
  have h2 : ¬ 8 < n := by omega
  clear h
  go_enter Try.func8, Try.ntmps8
  go_wp2
  go_ret2
  exact ⟨rfl, ⟨heap_alloc_new _ _, rfl⟩, below_alloc _ _⟩
set_option maxRecDepth 4000 in
theorem clear_c (g : Nat) (n : Int) (ms : List Mk) (core : Int) (w : World) (H : MonAt g n ms w) (hn : n ≤ 8) : Calls Try.prog 12 #[ptr g 0, vI core] w fun e w' => e = .returned (vI (if hasB n core then 0 else 1)) ∧ MTurn g n (if hasB n core then ms.set core.toNat (false, 0) else ms) w w' := by
  cases hB : hasB n core
  · go_enter Try.func12, Try.ntmps12
    go_wp2_with (go_at_call 19; refine (hasCore_c g n ms core _ H).mono ?_; rintro e w' ⟨rfl, rfl⟩; dsimp only; rw [show (decide (0 ≤ core) && decide (core < n)) = false from hB])
    go_ret
    exact ⟨rfl, mturn_refl H⟩
  · obtain ⟨k, rfl⟩ : ∃ k : Nat, core = k := ⟨core.toNat, by have := (hasB_iff.1 hB).1; omega⟩
    have hk := (hasB_iff.1 hB).2
    have hk8 : k < 8 := by omega
    have hl2 : (ms.set k (false, 0)).length = 8 := by rw [List.length_set]; exact H.len
    simp only [if_true, Int.toNat_natCast]
    go_enter Try.func12, Try.ntmps12
    have hr := H.all
    go_wp2_with (first | (go_at_call 19; refine (hasCore_c g n ms k _ H).mono ?_; rintro e w' ⟨rfl, rfl⟩; dsimp only; rw [show (decide (0 ≤ (k : Int)) && decide ((k : Int) < n)) = true from hB]) | ((with_reducible refine wpList_loadMs rfl _ rfl g 1 rfl ms hr H.len ?_); simp only [Act.put, List.setIfInBounds_toArray, List.set_cons_succ, List.set_cons_zero]) | (go_at_call 20; refine (with_c ms k (false, 0) _ H.len hk8).mono ?_; rintro e y ⟨rfl, hb⟩; dsimp only) | ((with_reducible refine wpList_storeMs rfl _ _ rfl g 1 rfl (ms.set k (false, 0)) rfl hl2 (monC n ms) 59 (H.grow hb).row (by rw [monC, List.length_cons, len_flatM, H.len]; decide) ?_); simp only [Act.put, List.setIfInBounds_toArray, List.set_cons_succ, List.set_cons_zero]))
    go_ret
    exact ⟨rfl, H.put hb hl2⟩
end Go.Proofs.Ytgloemlbkkjcaaa
