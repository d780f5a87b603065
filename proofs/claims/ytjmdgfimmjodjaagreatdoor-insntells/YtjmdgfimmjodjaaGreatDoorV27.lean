/- Instructions' words, Op by Op, as the document's own answer writes them: contracts. -/
import Derived.Test.YtjmdgfimmjodjaaGreatDoorV19
import Derived.Test.YtjmdgfimmjodjaaGreatDoorV26
namespace Go.Proofs.YtjmdgfimmjodjaaGreatDoor
open Go.RowKit Go.Rel
set_option linter.unusedVariables false
set_option maxRecDepth 8000 in
set_option maxHeartbeats 2000000 in
theorem wd_17 (S D N M A I J U F C Y : Int) (flags X O L : Bool) (hR : rightB ⟨17, S, D, N, M, A, I, J, U, F, C, Y, flags, X, O, L⟩ = true) (w : World) :
    Calls Tryz.prog 35 #[Ins.val ⟨17, S, D, N, M, A, I, J, U, F, C, Y, flags, X, O, L⟩] w fun e w' => e = .returned (strV (wordV ⟨17, S, D, N, M, A, I, J, U, F, C, Y, flags, X, O, L⟩)) ∧ Below w.heap.size w w' := by
  clear hR
  all_goals
    cases flags
  all_goals
    go_enter Tryz.func35, Tryz.ntmps35
    go_wp2
    go_ret
    exact ⟨rfl, by repeat (first | exact Below.refl _ _ | apply below_more)⟩
set_option maxRecDepth 8000 in
set_option maxHeartbeats 2000000 in
theorem wd_18 (S D N M A I J U F C Y : Int) (flags X O L : Bool) (hR : rightB ⟨18, S, D, N, M, A, I, J, U, F, C, Y, flags, X, O, L⟩ = true) (w : World) :
    Calls Tryz.prog 35 #[Ins.val ⟨18, S, D, N, M, A, I, J, U, F, C, Y, flags, X, O, L⟩] w fun e w' => e = .returned (strV (wordV ⟨18, S, D, N, M, A, I, J, U, F, C, Y, flags, X, O, L⟩)) ∧ Below w.heap.size w w' := by
  clear hR
  all_goals
    cases flags
  all_goals
    go_enter Tryz.func35, Tryz.ntmps35
    go_wp2
    go_ret
    exact ⟨rfl, by repeat (first | exact Below.refl _ _ | apply below_more)⟩
set_option maxRecDepth 8000 in
set_option maxHeartbeats 2000000 in
theorem wd_19 (S D N M A I J U F C Y : Int) (flags X O L : Bool) (hR : rightB ⟨19, S, D, N, M, A, I, J, U, F, C, Y, flags, X, O, L⟩ = true) (w : World) :
    Calls Tryz.prog 35 #[Ins.val ⟨19, S, D, N, M, A, I, J, U, F, C, Y, flags, X, O, L⟩] w fun e w' => e = .returned (strV (wordV ⟨19, S, D, N, M, A, I, J, U, F, C, Y, flags, X, O, L⟩)) ∧ Below w.heap.size w w' := by
  clear hR
  all_goals
    cases flags
  all_goals
    go_enter Tryz.func35, Tryz.ntmps35
    go_wp2
    go_ret
    exact ⟨rfl, by repeat (first | exact Below.refl _ _ | apply below_more)⟩
set_option maxRecDepth 8000 in
set_option maxHeartbeats 2000000 in
theorem wd_20 (S D N M A I J U F C Y : Int) (flags X O L : Bool) (hR : rightB ⟨20, S, D, N, M, A, I, J, U, F, C, Y, flags, X, O, L⟩ = true) (w : World) :
    Calls Tryz.prog 35 #[Ins.val ⟨20, S, D, N, M, A, I, J, U, F, C, Y, flags, X, O, L⟩] w fun e w' => e = .returned (strV (wordV ⟨20, S, D, N, M, A, I, J, U, F, C, Y, flags, X, O, L⟩)) ∧ Below w.heap.size w w' := by
  clear hR
  all_goals
    cases flags
  all_goals
    go_enter Tryz.func35, Tryz.ntmps35
    go_wp2
    go_ret
    exact ⟨rfl, by repeat (first | exact Below.refl _ _ | apply below_more)⟩
set_option maxRecDepth 8000 in
set_option maxHeartbeats 2000000 in
theorem wd_21 (S D N M A I J U F C Y : Int) (flags X O L : Bool) (hR : rightB ⟨21, S, D, N, M, A, I, J, U, F, C, Y, flags, X, O, L⟩ = true) (w : World) :
    Calls Tryz.prog 35 #[Ins.val ⟨21, S, D, N, M, A, I, J, U, F, C, Y, flags, X, O, L⟩] w fun e w' => e = .returned (strV (wordV ⟨21, S, D, N, M, A, I, J, U, F, C, Y, flags, X, O, L⟩)) ∧ Below w.heap.size w w' := by
  have G := fits hR
  have s0 : 0 ≤ S := Int.le_trans (show (0 : Int) ≤ (subS 21).lo by decide) G.s0
  have s1 : S ≤ 1 := Int.le_trans G.s1 (show (subS 21).hi ≤ 1 by decide)
  clear G hR
  rcases (by omega : S = 0 ∨ S = 1) with rfl | rfl
  all_goals
    cases flags
  all_goals
    go_enter Tryz.func35, Tryz.ntmps35
    go_wp2
    go_ret
    exact ⟨rfl, by repeat (first | exact Below.refl _ _ | apply below_more)⟩
set_option maxRecDepth 8000 in
set_option maxHeartbeats 2000000 in
theorem wd_22 (S D N M A I J U F C Y : Int) (flags X O L : Bool) (hR : rightB ⟨22, S, D, N, M, A, I, J, U, F, C, Y, flags, X, O, L⟩ = true) (w : World) :
    Calls Tryz.prog 35 #[Ins.val ⟨22, S, D, N, M, A, I, J, U, F, C, Y, flags, X, O, L⟩] w fun e w' => e = .returned (strV (wordV ⟨22, S, D, N, M, A, I, J, U, F, C, Y, flags, X, O, L⟩)) ∧ Below w.heap.size w w' := by
  clear hR
  all_goals
    cases flags
  all_goals
    go_enter Tryz.func35, Tryz.ntmps35
    go_wp2
    go_ret
    exact ⟨rfl, by repeat (first | exact Below.refl _ _ | apply below_more)⟩
set_option maxRecDepth 8000 in
set_option maxHeartbeats 2000000 in
theorem wd_23 (S D N M A I J U F C Y : Int) (flags X O L : Bool) (hR : rightB ⟨23, S, D, N, M, A, I, J, U, F, C, Y, flags, X, O, L⟩ = true) (w : World) :
    Calls Tryz.prog 35 #[Ins.val ⟨23, S, D, N, M, A, I, J, U, F, C, Y, flags, X, O, L⟩] w fun e w' => e = .returned (strV (wordV ⟨23, S, D, N, M, A, I, J, U, F, C, Y, flags, X, O, L⟩)) ∧ Below w.heap.size w w' := by
  have G := fits hR
  have s0 : 0 ≤ S := Int.le_trans (show (0 : Int) ≤ (subS 23).lo by decide) G.s0
  have s1 : S ≤ 1 := Int.le_trans G.s1 (show (subS 23).hi ≤ 1 by decide)
  clear G hR
  rcases (by omega : S = 0 ∨ S = 1) with rfl | rfl
  all_goals
    cases flags
  all_goals
    go_enter Tryz.func35, Tryz.ntmps35
    go_wp2
    go_ret
    exact ⟨rfl, by repeat (first | exact Below.refl _ _ | apply below_more)⟩
set_option maxRecDepth 8000 in
set_option maxHeartbeats 2000000 in
theorem wd_24 (S D N M A I J U F C Y : Int) (flags X O L : Bool) (hR : rightB ⟨24, S, D, N, M, A, I, J, U, F, C, Y, flags, X, O, L⟩ = true) (w : World) :
    Calls Tryz.prog 35 #[Ins.val ⟨24, S, D, N, M, A, I, J, U, F, C, Y, flags, X, O, L⟩] w fun e w' => e = .returned (strV (wordV ⟨24, S, D, N, M, A, I, J, U, F, C, Y, flags, X, O, L⟩)) ∧ Below w.heap.size w w' := by
  have G := fits hR
  have s0 : 0 ≤ S := Int.le_trans (show (0 : Int) ≤ (subS 24).lo by decide) G.s0
  have s1 : S ≤ 1 := Int.le_trans G.s1 (show (subS 24).hi ≤ 1 by decide)
  clear G hR
  rcases (by omega : S = 0 ∨ S = 1) with rfl | rfl
  all_goals
    cases flags
  all_goals
    go_enter Tryz.func35, Tryz.ntmps35
    go_wp2
    go_ret
    exact ⟨rfl, by repeat (first | exact Below.refl _ _ | apply below_more)⟩
set_option maxRecDepth 8000 in
set_option maxHeartbeats 2000000 in
theorem wd_25 (S D N M A I J U F C Y : Int) (flags X O L : Bool) (hR : rightB ⟨25, S, D, N, M, A, I, J, U, F, C, Y, flags, X, O, L⟩ = true) (w : World) :
    Calls Tryz.prog 35 #[Ins.val ⟨25, S, D, N, M, A, I, J, U, F, C, Y, flags, X, O, L⟩] w fun e w' => e = .returned (strV (wordV ⟨25, S, D, N, M, A, I, J, U, F, C, Y, flags, X, O, L⟩)) ∧ Below w.heap.size w w' := by
  clear hR
  all_goals
    cases flags
  all_goals
    go_enter Tryz.func35, Tryz.ntmps35
    go_wp2
    go_ret
    exact ⟨rfl, by repeat (first | exact Below.refl _ _ | apply below_more)⟩
set_option maxRecDepth 8000 in
set_option maxHeartbeats 2000000 in
theorem wd_26 (S D N M A I J U F C Y : Int) (flags X O L : Bool) (hR : rightB ⟨26, S, D, N, M, A, I, J, U, F, C, Y, flags, X, O, L⟩ = true) (w : World) :
    Calls Tryz.prog 35 #[Ins.val ⟨26, S, D, N, M, A, I, J, U, F, C, Y, flags, X, O, L⟩] w fun e w' => e = .returned (strV (wordV ⟨26, S, D, N, M, A, I, J, U, F, C, Y, flags, X, O, L⟩)) ∧ Below w.heap.size w w' := by
  have G := fits hR
  have s0 : 0 ≤ S := Int.le_trans (show (0 : Int) ≤ (subS 26).lo by decide) G.s0
  have s1 : S ≤ 1 := Int.le_trans G.s1 (show (subS 26).hi ≤ 1 by decide)
  clear G hR
  rcases (by omega : S = 0 ∨ S = 1) with rfl | rfl
  all_goals
    cases flags
  all_goals
    go_enter Tryz.func35, Tryz.ntmps35
    go_wp2
    go_ret
    exact ⟨rfl, by repeat (first | exact Below.refl _ _ | apply below_more)⟩
set_option maxRecDepth 8000 in
set_option maxHeartbeats 2000000 in
theorem wd_27 (S D N M A I J U F C Y : Int) (flags X O L : Bool) (hR : rightB ⟨27, S, D, N, M, A, I, J, U, F, C, Y, flags, X, O, L⟩ = true) (w : World) :
    Calls Tryz.prog 35 #[Ins.val ⟨27, S, D, N, M, A, I, J, U, F, C, Y, flags, X, O, L⟩] w fun e w' => e = .returned (strV (wordV ⟨27, S, D, N, M, A, I, J, U, F, C, Y, flags, X, O, L⟩)) ∧ Below w.heap.size w w' := by
  clear hR
  all_goals
    cases flags
  all_goals
    go_enter Tryz.func35, Tryz.ntmps35
    go_wp2
    go_ret
    exact ⟨rfl, by repeat (first | exact Below.refl _ _ | apply below_more)⟩
set_option maxRecDepth 8000 in
set_option maxHeartbeats 2000000 in
theorem wd_28 (S D N M A I J U F C Y : Int) (flags X O L : Bool) (hR : rightB ⟨28, S, D, N, M, A, I, J, U, F, C, Y, flags, X, O, L⟩ = true) (w : World) :
    Calls Tryz.prog 35 #[Ins.val ⟨28, S, D, N, M, A, I, J, U, F, C, Y, flags, X, O, L⟩] w fun e w' => e = .returned (strV (wordV ⟨28, S, D, N, M, A, I, J, U, F, C, Y, flags, X, O, L⟩)) ∧ Below w.heap.size w w' := by
  clear hR
  all_goals
    cases flags
  all_goals
    go_enter Tryz.func35, Tryz.ntmps35
    go_wp2
    go_ret
    exact ⟨rfl, by repeat (first | exact Below.refl _ _ | apply below_more)⟩
set_option maxRecDepth 8000 in
set_option maxHeartbeats 2000000 in
theorem wd_29 (S D N M A I J U F C Y : Int) (flags X O L : Bool) (hR : rightB ⟨29, S, D, N, M, A, I, J, U, F, C, Y, flags, X, O, L⟩ = true) (w : World) :
    Calls Tryz.prog 35 #[Ins.val ⟨29, S, D, N, M, A, I, J, U, F, C, Y, flags, X, O, L⟩] w fun e w' => e = .returned (strV (wordV ⟨29, S, D, N, M, A, I, J, U, F, C, Y, flags, X, O, L⟩)) ∧ Below w.heap.size w w' := by
  clear hR
  all_goals
    cases flags
  all_goals
    go_enter Tryz.func35, Tryz.ntmps35
    go_wp2
    go_ret
    exact ⟨rfl, by repeat (first | exact Below.refl _ _ | apply below_more)⟩
set_option maxRecDepth 8000 in
set_option maxHeartbeats 2000000 in
theorem wd_30 (S D N M A I J U F C Y : Int) (flags X O L : Bool) (hR : rightB ⟨30, S, D, N, M, A, I, J, U, F, C, Y, flags, X, O, L⟩ = true) (w : World) :
    Calls Tryz.prog 35 #[Ins.val ⟨30, S, D, N, M, A, I, J, U, F, C, Y, flags, X, O, L⟩] w fun e w' => e = .returned (strV (wordV ⟨30, S, D, N, M, A, I, J, U, F, C, Y, flags, X, O, L⟩)) ∧ Below w.heap.size w w' := by
  clear hR
  all_goals
    cases flags
  all_goals
    go_enter Tryz.func35, Tryz.ntmps35
    go_wp2
    go_ret
    exact ⟨rfl, by repeat (first | exact Below.refl _ _ | apply below_more)⟩
set_option maxRecDepth 8000 in
set_option maxHeartbeats 2000000 in
theorem wd_31 (S D N M A I J U F C Y : Int) (flags X O L : Bool) (hR : rightB ⟨31, S, D, N, M, A, I, J, U, F, C, Y, flags, X, O, L⟩ = true) (w : World) :
    Calls Tryz.prog 35 #[Ins.val ⟨31, S, D, N, M, A, I, J, U, F, C, Y, flags, X, O, L⟩] w fun e w' => e = .returned (strV (wordV ⟨31, S, D, N, M, A, I, J, U, F, C, Y, flags, X, O, L⟩)) ∧ Below w.heap.size w w' := by
  clear hR
  all_goals
    cases flags
  all_goals
    go_enter Tryz.func35, Tryz.ntmps35
    go_wp2
    go_ret
    exact ⟨rfl, by repeat (first | exact Below.refl _ _ | apply below_more)⟩
set_option maxRecDepth 8000 in
set_option maxHeartbeats 2000000 in
theorem wd_32 (S D N M A I J U F C Y : Int) (flags X O L : Bool) (hR : rightB ⟨32, S, D, N, M, A, I, J, U, F, C, Y, flags, X, O, L⟩ = true) (w : World) :
    Calls Tryz.prog 35 #[Ins.val ⟨32, S, D, N, M, A, I, J, U, F, C, Y, flags, X, O, L⟩] w fun e w' => e = .returned (strV (wordV ⟨32, S, D, N, M, A, I, J, U, F, C, Y, flags, X, O, L⟩)) ∧ Below w.heap.size w w' := by
  clear hR
  all_goals
    cases flags
  all_goals
    go_enter Tryz.func35, Tryz.ntmps35
    go_wp2
    go_ret
    exact ⟨rfl, by repeat (first | exact Below.refl _ _ | apply below_more)⟩
set_option maxRecDepth 8000 in
set_option maxHeartbeats 2000000 in
theorem wd_33 (S D N M A I J U F C Y : Int) (flags X O L : Bool) (hR : rightB ⟨33, S, D, N, M, A, I, J, U, F, C, Y, flags, X, O, L⟩ = true) (w : World) :
    Calls Tryz.prog 35 #[Ins.val ⟨33, S, D, N, M, A, I, J, U, F, C, Y, flags, X, O, L⟩] w fun e w' => e = .returned (strV (wordV ⟨33, S, D, N, M, A, I, J, U, F, C, Y, flags, X, O, L⟩)) ∧ Below w.heap.size w w' := by
  clear hR
  all_goals
    cases flags
  all_goals
    go_enter Tryz.func35, Tryz.ntmps35
    go_wp2
    go_ret
    exact ⟨rfl, by repeat (first | exact Below.refl _ _ | apply below_more)⟩
set_option maxRecDepth 8000 in
set_option maxHeartbeats 2000000 in
theorem wd_34 (S D N M A I J U F C Y : Int) (flags X O L : Bool) (hR : rightB ⟨34, S, D, N, M, A, I, J, U, F, C, Y, flags, X, O, L⟩ = true) (w : World) :
    Calls Tryz.prog 35 #[Ins.val ⟨34, S, D, N, M, A, I, J, U, F, C, Y, flags, X, O, L⟩] w fun e w' => e = .returned (strV (wordV ⟨34, S, D, N, M, A, I, J, U, F, C, Y, flags, X, O, L⟩)) ∧ Below w.heap.size w w' := by
  clear hR
  all_goals
    cases flags
  all_goals
    go_enter Tryz.func35, Tryz.ntmps35
    go_wp2
    go_ret
    exact ⟨rfl, by repeat (first | exact Below.refl _ _ | apply below_more)⟩
set_option maxRecDepth 8000 in
set_option maxHeartbeats 2000000 in
theorem wd_35 (S D N M A I J U F C Y : Int) (flags X O L : Bool) (hR : rightB ⟨35, S, D, N, M, A, I, J, U, F, C, Y, flags, X, O, L⟩ = true) (w : World) :
    Calls Tryz.prog 35 #[Ins.val ⟨35, S, D, N, M, A, I, J, U, F, C, Y, flags, X, O, L⟩] w fun e w' => e = .returned (strV (wordV ⟨35, S, D, N, M, A, I, J, U, F, C, Y, flags, X, O, L⟩)) ∧ Below w.heap.size w w' := by
  clear hR
  all_goals
    cases flags
  all_goals
    go_enter Tryz.func35, Tryz.ntmps35
    go_wp2
    go_ret
    exact ⟨rfl, by repeat (first | exact Below.refl _ _ | apply below_more)⟩
set_option maxRecDepth 8000 in
set_option maxHeartbeats 2000000 in
theorem wd_36 (S D N M A I J U F C Y : Int) (flags X O L : Bool) (hR : rightB ⟨36, S, D, N, M, A, I, J, U, F, C, Y, flags, X, O, L⟩ = true) (w : World) :
    Calls Tryz.prog 35 #[Ins.val ⟨36, S, D, N, M, A, I, J, U, F, C, Y, flags, X, O, L⟩] w fun e w' => e = .returned (strV (wordV ⟨36, S, D, N, M, A, I, J, U, F, C, Y, flags, X, O, L⟩)) ∧ Below w.heap.size w w' := by
  clear hR
  all_goals
    cases flags
  all_goals
    go_enter Tryz.func35, Tryz.ntmps35
    go_wp2
    go_ret
    exact ⟨rfl, by repeat (first | exact Below.refl _ _ | apply below_more)⟩
set_option maxRecDepth 8000 in
set_option maxHeartbeats 2000000 in
theorem wd_37 (S D N M A I J U F C Y : Int) (flags X O L : Bool) (hR : rightB ⟨37, S, D, N, M, A, I, J, U, F, C, Y, flags, X, O, L⟩ = true) (w : World) :
    Calls Tryz.prog 35 #[Ins.val ⟨37, S, D, N, M, A, I, J, U, F, C, Y, flags, X, O, L⟩] w fun e w' => e = .returned (strV (wordV ⟨37, S, D, N, M, A, I, J, U, F, C, Y, flags, X, O, L⟩)) ∧ Below w.heap.size w w' := by
  clear hR
  all_goals
    cases flags
  all_goals
    go_enter Tryz.func35, Tryz.ntmps35
    go_wp2
    go_ret
    exact ⟨rfl, by repeat (first | exact Below.refl _ _ | apply below_more)⟩
end Go.Proofs.YtjmdgfimmjodjaaGreatDoor
/- An instruction's word, as the document's own answer writes it: a contract, for every instruction that is right. -/
namespace Go.Proofs.YtjmdgfimmjodjaaGreatDoor
open Go.RowKit Go.Rel
theorem rword_c (i : Ins) (hR : rightB i = true) (w : World) : Calls Tryz.prog 35 #[i.val] w fun e w' => e = .returned (strV (wordV i)) ∧ Below w.heap.size w w' := by
  have G := fits hR
  have o0 := G.o0
  have o1 := G.o1
  clear G
  obtain ⟨op, sub, rd, rn, rm, ra, imm, imm2, amount, shift, cond, sys, flags, minus, not, link⟩ := i
  dsimp only at o0 o1
  rcases (by omega : op = 1 ∨ op = 2 ∨ op = 3 ∨ op = 4 ∨ op = 5 ∨ op = 6 ∨ op = 7 ∨ op = 8 ∨ op = 9 ∨ op = 10 ∨ op = 11 ∨ op = 12 ∨ op = 13 ∨ op = 14 ∨ op = 15 ∨ op = 16 ∨ op = 17 ∨ op = 18 ∨ op = 19 ∨ op = 20 ∨ op = 21 ∨ op = 22 ∨ op = 23 ∨ op = 24 ∨ op = 25 ∨ op = 26 ∨ op = 27 ∨ op = 28 ∨ op = 29 ∨ op = 30 ∨ op = 31 ∨ op = 32 ∨ op = 33 ∨ op = 34 ∨ op = 35 ∨ op = 36 ∨ op = 37) with rfl | rfl | rfl | rfl | rfl | rfl | rfl | rfl | rfl | rfl | rfl | rfl | rfl | rfl | rfl | rfl | rfl | rfl | rfl | rfl | rfl | rfl | rfl | rfl | rfl | rfl | rfl | rfl | rfl | rfl | rfl | rfl | rfl | rfl | rfl | rfl | rfl
  · exact wd_1 _ _ _ _ _ _ _ _ _ _ _ _ _ _ _ hR w
  · exact wd_2 _ _ _ _ _ _ _ _ _ _ _ _ _ _ _ hR w
  · exact wd_3 _ _ _ _ _ _ _ _ _ _ _ _ _ _ _ hR w
  · exact wd_4 _ _ _ _ _ _ _ _ _ _ _ _ _ _ _ hR w
  · exact wd_5 _ _ _ _ _ _ _ _ _ _ _ _ _ _ _ hR w
  · exact wd_6 _ _ _ _ _ _ _ _ _ _ _ _ _ _ _ hR w
  · exact wd_7 _ _ _ _ _ _ _ _ _ _ _ _ _ _ _ hR w
  · exact wd_8 _ _ _ _ _ _ _ _ _ _ _ _ _ _ _ hR w
  · exact wd_9 _ _ _ _ _ _ _ _ _ _ _ _ _ _ _ hR w
  · exact wd_10 _ _ _ _ _ _ _ _ _ _ _ _ _ _ _ hR w
  · exact wd_11 _ _ _ _ _ _ _ _ _ _ _ _ _ _ _ hR w
  · exact wd_12 _ _ _ _ _ _ _ _ _ _ _ _ _ _ _ hR w
  · exact wd_13 _ _ _ _ _ _ _ _ _ _ _ _ _ _ _ hR w
  · exact wd_14 _ _ _ _ _ _ _ _ _ _ _ _ _ _ _ hR w
  · exact wd_15 _ _ _ _ _ _ _ _ _ _ _ _ _ _ _ hR w
  · exact wd_16 _ _ _ _ _ _ _ _ _ _ _ _ _ _ _ hR w
  · exact wd_17 _ _ _ _ _ _ _ _ _ _ _ _ _ _ _ hR w
  · exact wd_18 _ _ _ _ _ _ _ _ _ _ _ _ _ _ _ hR w
  · exact wd_19 _ _ _ _ _ _ _ _ _ _ _ _ _ _ _ hR w
  · exact wd_20 _ _ _ _ _ _ _ _ _ _ _ _ _ _ _ hR w
  · exact wd_21 _ _ _ _ _ _ _ _ _ _ _ _ _ _ _ hR w
  · exact wd_22 _ _ _ _ _ _ _ _ _ _ _ _ _ _ _ hR w
  · exact wd_23 _ _ _ _ _ _ _ _ _ _ _ _ _ _ _ hR w
  · exact wd_24 _ _ _ _ _ _ _ _ _ _ _ _ _ _ _ hR w
  · exact wd_25 _ _ _ _ _ _ _ _ _ _ _ _ _ _ _ hR w
  · exact wd_26 _ _ _ _ _ _ _ _ _ _ _ _ _ _ _ hR w
  · exact wd_27 _ _ _ _ _ _ _ _ _ _ _ _ _ _ _ hR w
  · exact wd_28 _ _ _ _ _ _ _ _ _ _ _ _ _ _ _ hR w
  · exact wd_29 _ _ _ _ _ _ _ _ _ _ _ _ _ _ _ hR w
  · exact wd_30 _ _ _ _ _ _ _ _ _ _ _ _ _ _ _ hR w
  · exact wd_31 _ _ _ _ _ _ _ _ _ _ _ _ _ _ _ hR w
  · exact wd_32 _ _ _ _ _ _ _ _ _ _ _ _ _ _ _ hR w
  · exact wd_33 _ _ _ _ _ _ _ _ _ _ _ _ _ _ _ hR w
  · exact wd_34 _ _ _ _ _ _ _ _ _ _ _ _ _ _ _ hR w
  · exact wd_35 _ _ _ _ _ _ _ _ _ _ _ _ _ _ _ hR w
  · exact wd_36 _ _ _ _ _ _ _ _ _ _ _ _ _ _ _ hR w
  · exact wd_37 _ _ _ _ _ _ _ _ _ _ _ _ _ _ _ hR w
end Go.Proofs.YtjmdgfimmjodjaaGreatDoor
