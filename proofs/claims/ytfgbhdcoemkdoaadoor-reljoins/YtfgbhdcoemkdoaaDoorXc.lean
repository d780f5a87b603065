/- says; what the functions of RelJoins tell. -/
import Derived.Test.YtfgbhdcoemkdoaaDoorUb
import Derived.Defers
import Derived.Recover
import Derived.Laws.Pointers
namespace Go.Proofs.YtfgbhdcoemkdoaaDoor
open Go.RowKit
set_option linter.unusedVariables false
set_option linter.unusedSimpArgs false
set_option maxRecDepth 8000

open Rlw
theorem says_nil (v : Int) (w : World) : Calls Tryd.prog 59 #[.nilFunc, vI v] w fun e w' => e = .returned (.bool true) ∧ Below w.heap.size w w' := by
  have hb := below_alloc w (Obj.cells #[.bool false] 4)
  have hrun : ∀ w, Sem.run Tryd.prog (binOp BinOp.eql 34 Value.nilFunc Value.nilFunc) w = .ok (.bool true) w := fun _ => by kernel_rfl
  go_enter_defers Tryd.func59, Tryd.ntmps59
  go_wp2
  simp [bodyPostD, Leaves, settle, results, Tryd.results59, go_sem]
  exact below_alloc _ _
theorem catch_idle (p : Addr) (w : World) :
    CallsD Tryd.prog 63 #[.pointer (some p)] .returning w fun e u' w' => e = .returned (.tuple #[]) ∧ u' = .returning ∧ w' = w := by
  refine callsD_of_wpS Tryd.func63 rfl fun c₀ cs hu => ?_
  apply wpS_seq
  apply wpS_region
  simp [wpOpsS, go_sem, recoverD, hu, Tryd.ntmps63, Exit.thenS]
  refine wpS_cond (t := false) (by simp [Act.eval, Array.replicate]) ?_
  simp only [Bool.false_eq_true, if_false]
  refine wpS_of_wp (wp_skip ?_)
  cases c₀
  simp_all [bodyPostS, results, Tryd.results63]
theorem says_c32 {p : Value} {w : World} {v : Int} {b : Bool} (hc : ∀ w1, Below w.heap.size w w1 → Calls Tryd.prog 32 #[vI v, p] w1 fun e w' => e = .returned (.bool b) ∧ w' = w1) : Calls Tryd.prog 59 #[.func (.func 32) #[] #[p], vI v] w fun e w' => e = .returned (.bool b) ∧ Below w.heap.size w w' := by
  have hmf : ∀ (fn : Fn) (first cap : Array Value) (w : World), (Instr.makeFunc fn first cap).run Tryd.prog w = .ok (.func fn first cap) w := fun _ _ _ _ => rfl
  have hb := below_alloc w (Obj.cells #[.bool false] 4)
  have hcc := hc _ hb
  have hrun : ∀ w, Sem.run Tryd.prog (binOp BinOp.eql 34 (Value.func (.func 32) #[] #[p]) Value.nilFunc) w = .ok (.bool false) w := fun _ => by kernel_rfl
  go_enter_defers Tryd.func59, Tryd.ntmps59
  go_wp2_with (first | (go_at_call 32; (with_reducible refine hcc.mono ?_); rintro e w1 ⟨rfl, rfl⟩; dsimp only))
  refine leaves_cons (f := 63) (args := #[.pointer (some ⟨w.heap.size, 0, none⟩)]) (by simp) (by simp [go_sem]) ?_
  refine (catch_idle ⟨w.heap.size, 0, none⟩ _).mono ?_
  rintro e u' w'' ⟨rfl, rfl, rfl⟩
  simp [Leaves, settle, results, Tryd.results59, go_sem]
  exact below_alloc _ _
theorem says_c33 {p : Value} {w : World} {v : Int} {b : Bool} (hc : ∀ w1, Below w.heap.size w w1 → Calls Tryd.prog 33 #[vI v, p] w1 fun e w' => e = .returned (.bool b) ∧ w' = w1) : Calls Tryd.prog 59 #[.func (.func 33) #[] #[p], vI v] w fun e w' => e = .returned (.bool b) ∧ Below w.heap.size w w' := by
  have hmf : ∀ (fn : Fn) (first cap : Array Value) (w : World), (Instr.makeFunc fn first cap).run Tryd.prog w = .ok (.func fn first cap) w := fun _ _ _ _ => rfl
  have hb := below_alloc w (Obj.cells #[.bool false] 4)
  have hcc := hc _ hb
  have hrun : ∀ w, Sem.run Tryd.prog (binOp BinOp.eql 34 (Value.func (.func 33) #[] #[p]) Value.nilFunc) w = .ok (.bool false) w := fun _ => by kernel_rfl
  go_enter_defers Tryd.func59, Tryd.ntmps59
  go_wp2_with (first | (go_at_call 33; (with_reducible refine hcc.mono ?_); rintro e w1 ⟨rfl, rfl⟩; dsimp only))
  refine leaves_cons (f := 63) (args := #[.pointer (some ⟨w.heap.size, 0, none⟩)]) (by simp) (by simp [go_sem]) ?_
  refine (catch_idle ⟨w.heap.size, 0, none⟩ _).mono ?_
  rintro e u' w'' ⟨rfl, rfl, rfl⟩
  simp [Leaves, settle, results, Tryd.results59, go_sem]
  exact below_alloc _ _
theorem says_c35 {p : Value} {w : World} {v : Int} {b : Bool} (hc : ∀ w1, Below w.heap.size w w1 → Calls Tryd.prog 35 #[vI v, p] w1 fun e w' => e = .returned (.bool b) ∧ w' = w1) : Calls Tryd.prog 59 #[.func (.func 35) #[] #[p], vI v] w fun e w' => e = .returned (.bool b) ∧ Below w.heap.size w w' := by
  have hmf : ∀ (fn : Fn) (first cap : Array Value) (w : World), (Instr.makeFunc fn first cap).run Tryd.prog w = .ok (.func fn first cap) w := fun _ _ _ _ => rfl
  have hb := below_alloc w (Obj.cells #[.bool false] 4)
  have hcc := hc _ hb
  have hrun : ∀ w, Sem.run Tryd.prog (binOp BinOp.eql 34 (Value.func (.func 35) #[] #[p]) Value.nilFunc) w = .ok (.bool false) w := fun _ => by kernel_rfl
  go_enter_defers Tryd.func59, Tryd.ntmps59
  go_wp2_with (first | (go_at_call 35; (with_reducible refine hcc.mono ?_); rintro e w1 ⟨rfl, rfl⟩; dsimp only))
  refine leaves_cons (f := 63) (args := #[.pointer (some ⟨w.heap.size, 0, none⟩)]) (by simp) (by simp [go_sem]) ?_
  refine (catch_idle ⟨w.heap.size, 0, none⟩ _).mono ?_
  rintro e u' w'' ⟨rfl, rfl, rfl⟩
  simp [Leaves, settle, results, Tryd.results59, go_sem]
  exact below_alloc _ _
theorem clo_c {sb g m : Nat} {f : Nat → Bool} {w : World} (h1 : w.cell? ⟨sb, 0, none⟩ = some (.slice (some ⟨g, 0, none⟩) m m)) {v : Nat} (hv : v < m) (h2 : w.cell? ⟨g, v, none⟩ = some (.bool (f v))) : (Calls Tryd.prog 32 #[vI v, ptr sb 0] w fun e w' => e = .returned (.bool (f v)) ∧ w' = w) ∧ (Calls Tryd.prog 33 #[vI v, ptr sb 0] w fun e w' => e = .returned (.bool (f v)) ∧ w' = w) ∧ (Calls Tryd.prog 35 #[vI v, ptr sb 0] w fun e w' => e = .returned (.bool (f v)) ∧ w' = w) := by
  have hvi : (v : Int) < m := by omega
  refine ⟨?_, ?_, ?_⟩
  · go_enter Tryd.func32, Tryd.ntmps32
    go_wp2
    go_ret
    exact ⟨rfl, rfl⟩
  · go_enter Tryd.func33, Tryd.ntmps33
    go_wp2
    go_ret
    exact ⟨rfl, rfl⟩
  · go_enter Tryd.func35, Tryd.ntmps35
    go_wp2
    go_ret
    exact ⟨rfl, rfl⟩
end Go.Proofs.YtfgbhdcoemkdoaaDoor
