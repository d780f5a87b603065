/- MonitorPlays, whatever its arguments. -/
import Derived.Test.YtgloemlbkkjcaaaPl
namespace Go.Proofs.Ytgloemlbkkjcaaa
open Go.RowKit
set_option linter.unusedVariables false
set_option linter.unusedSimpArgs false

set_option maxRecDepth 8000 in
theorem plays_no (cores : Int) (v : Value) (ss : List St3) (w : World) (h : newB cores = false) (R : Scr w v ss) : Calls Try.prog 3 #[vI cores, v] w fun e w' => e = .returned (.bool true) ∧ Below w.heap.size w w' := by
  by_cases h1 : cores < 1
  · go_enter Try.func3, Try.ntmps3
    go_wp2_with (first | (go_at_call 7; refine (known_c _).mono ?_; rintro e x1 ⟨rfl, hb1⟩; dsimp only) | (go_at_call 8; refine (new_no cores _ h).mono ?_; rintro e x2 ⟨rfl, rfl⟩; dsimp only))
    go_ret
    exact ⟨rfl, hb1⟩
  · have h2 : 8 < cores := by simp [newB] at h; omega
    go_enter Try.func3, Try.ntmps3
    go_wp2_with (first | (go_at_call 7; refine (known_c _).mono ?_; rintro e x1 ⟨rfl, hb1⟩; dsimp only) | (go_at_call 8; refine (new_no cores _ h).mono ?_; rintro e x2 ⟨rfl, rfl⟩; dsimp only))
    go_ret
    exact ⟨rfl, hb1⟩
theorem plays_walk (cores : Int) (v : Value) (ss : List St3) (w : World) (hc : I64 cores) (R : Scr w v ss) : Calls Try.prog 3 #[vI cores, v] w fun e w' => e = .returned (.bool true) ∧ Below w.heap.size w w' := by
  cases h : newB cores
  · exact plays_no cores v ss w h R
  · simp only [newB, Bool.and_eq_true, decide_eq_true_eq] at h
    obtain ⟨n, rfl⟩ : ∃ n : Nat, cores = n := ⟨cores.toNat, by omega⟩
    exact plays_yes n v ss w (by omega) (by omega) R
end Go.Proofs.Ytgloemlbkkjcaaa
