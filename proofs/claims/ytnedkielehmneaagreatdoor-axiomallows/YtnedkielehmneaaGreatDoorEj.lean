/- The three axioms. -/
import Derived.Test.YtnedkielehmneaaGreatDoorEi
namespace Go.Proofs.YtnedkielehmneaaGreatDoor
open Go.RowKit
open Go.Shelf
set_option linter.unusedVariables false
set_option linter.unusedSimpArgs false
set_option maxRecDepth 8000

open Axm
theorem loop_q {r n : Nat} {R : Nat → Nat → Bool} {w : World} (H : RelAt r n R w) {q : Option Nat} (hq : Rlw.loopF n R = q) : Calls Tryz.prog 57 #[ptr r 0] w fun e w' => e = .returned (.tuple #[vI (q.getD 0 : Nat), .bool q.isSome]) ∧ Below w.heap.size w w' := by
  rw [← hq]; exact loop_c H
theorem pairs_q {r n : Nat} {R : Nat → Nat → Bool} {w : World} (H : RelAt r n R w) (T : Tab w) {q : List (Nat × Nat)} (hq : Rlw.prsN n n R = q) : Calls Tryz.prog 43 #[ptr r 0] w fun e w' => ∃ v, e = .returned v ∧ w'.ownsRow w.heap.size 48 2 v q.length (flatP q) ∧ Below w.heap.size w w' := by
  rw [← hq]; exact pairs_r H T
set_option maxHeartbeats 4000000 in
theorem internal_c {w : World} {v : Value} {n : Nat} {x : Nat → Ev} (E : Evs w v n x) (hn : n ≤ 64) (T : Tab w) : Calls Tryz.prog 31 #[v] w fun e w' => e = .returned (.bool (intV n x)) ∧ Below w.heap.size w w' := by
  have B := Below.refl w.heap.size w
  unfold intV
  generalize hq : Rlw.loopF n (inbR n x) = q
  go_enter Tryz.func31, Tryz.ntmps31
  go_wp2_with (first | (go_at_call 52; with_reducible refine (po_c E hn).mono ?_; rintro e w1 ⟨r1, rfl, H1, h1⟩; replace E := E.grow h1; replace T := T.grow h1; replace B := B.trans (h1.mono B.size); clear h1; dsimp only) | (go_at_call 53; with_reducible refine (loc_c E hn).mono ?_; rintro e w2 ⟨r2, rfl, H2, h2⟩; replace H1 := H1.grow h2; replace E := E.grow h2; replace T := T.grow h2; replace B := B.trans (h2.mono B.size); clear h2; dsimp only) | (go_at_call 51; with_reducible refine (both_c H1 H2 T).mono ?_; rintro e w3 ⟨r3, rfl, H3, h3⟩; replace H1 := H1.grow h3; replace H2 := H2.grow h3; replace E := E.grow h3; replace T := T.grow h3; replace B := B.trans (h3.mono B.size); clear h3; dsimp only) | (go_at_call 54; with_reducible refine (rf_c E hn).mono ?_; rintro e w4 ⟨r4, rfl, H4, h4⟩; replace H1 := H1.grow h4; replace H2 := H2.grow h4; replace H3 := H3.grow h4; replace E := E.grow h4; replace T := T.grow h4; replace B := B.trans (h4.mono B.size); clear h4; dsimp only) | (go_at_call 55; with_reducible refine (co_c E hn T).mono ?_; rintro e w5 ⟨r5, rfl, H5, h5⟩; replace H1 := H1.grow h5; replace H2 := H2.grow h5; replace H3 := H3.grow h5; replace H4 := H4.grow h5; replace E := E.grow h5; replace T := T.grow h5; replace B := B.trans (h5.mono B.size); clear h5; dsimp only) | (go_at_call 56; with_reducible refine (fr_c E hn T).mono ?_; rintro e w6 ⟨r6, rfl, H6, h6⟩; replace H1 := H1.grow h6; replace H2 := H2.grow h6; replace H3 := H3.grow h6; replace H4 := H4.grow h6; replace H5 := H5.grow h6; replace E := E.grow h6; replace T := T.grow h6; replace B := B.trans (h6.mono B.size); clear h6; dsimp only) | (go_at_call 50; with_reducible refine (union3 H3 H4 H5 H6 T).mono ?_; rintro e w7 ⟨r7, rfl, H7, h7⟩; replace H1 := H1.grow h7; replace H2 := H2.grow h7; replace H3 := H3.grow h7; replace H4 := H4.grow h7; replace H5 := H5.grow h7; replace H6 := H6.grow h7; replace E := E.grow h7; replace T := T.grow h7; replace B := B.trans (h7.mono B.size); clear h7; dsimp only) | (go_at_call 57; have kl := loop_q H7 hq; with_reducible refine kl.mono ?_; rintro e w9 ⟨rfl, h9⟩; replace B := B.trans (h9.mono B.size); dsimp only))
  go_ret
  exact ⟨by cases q <;> rfl, B⟩
set_option maxHeartbeats 4000000 in
theorem external_c {w : World} {v : Value} {n : Nat} {x : Nat → Ev} (E : Evs w v n x) (hn : n ≤ 64) (T : Tab w) : Calls Tryz.prog 32 #[v] w fun e w' => e = .returned (.bool (extV n x)) ∧ Below w.heap.size w w' := by
  have B := Below.refl w.heap.size w
  unfold extV
  generalize hq : Rlw.loopF n (obR n x) = q
  go_enter Tryz.func32, Tryz.ntmps32
  go_wp2_with (first | (go_at_call 58; with_reducible refine (ob_c E hn T).mono ?_; rintro e w1 ⟨r1, rfl, H1, h1⟩; replace E := E.grow h1; replace T := T.grow h1; replace B := B.trans (h1.mono B.size); clear h1; dsimp only) | (go_at_call 57; have kl := loop_q H1 hq; with_reducible refine kl.mono ?_; rintro e w9 ⟨rfl, h9⟩; replace B := B.trans (h9.mono B.size); dsimp only))
  go_ret
  exact ⟨by cases q <;> rfl, B⟩
theorem len0 {α : Type} (q : List α) : ((q.length : Int) == 0) = decide (q.length = 0) := by
  rw [Bool.eq_iff_iff, beq_iff_eq, decide_eq_true_eq]; omega
theorem owns_len {w : World} {B t s k : Nat} {v : Value} {cs : List Value} (h : w.ownsRow B t s v k cs) : ∃ ao cap, v = .slice ao k cap := by
  rcases h.2 with ⟨h1, h2⟩ | ⟨g, cap, cur, h1, _⟩
  · exact ⟨none, 0, by rw [h1, h2]⟩
  · exact ⟨_, _, h1⟩
set_option maxHeartbeats 4000000 in
theorem atomic_c {w : World} {v : Value} {n : Nat} {x : Nat → Ev} (E : Evs w v n x) (hn : n ≤ 64) (T : Tab w) : Calls Tryz.prog 33 #[v] w fun e w' => e = .returned (.bool (atoV n x)) ∧ Below w.heap.size w w' := by
  have B := Below.refl w.heap.size w
  unfold atoV
  generalize hq : (Rlw.prsN n n (atoR n x)) = q
  go_enter Tryz.func33, Tryz.ntmps33
  go_wp2_with (first | (go_at_call 59; with_reducible refine (rmw_c E hn T).mono ?_; rintro e w1 ⟨r1, rfl, H1, h1⟩; replace E := E.grow h1; replace T := T.grow h1; replace B := B.trans (h1.mono B.size); clear h1; dsimp only) | (go_at_call 61; with_reducible refine (fre_c E hn T).mono ?_; rintro e w2 ⟨r2, rfl, H2, h2⟩; replace H1 := H1.grow h2; replace E := E.grow h2; replace T := T.grow h2; replace B := B.trans (h2.mono B.size); clear h2; dsimp only) | (go_at_call 62; with_reducible refine (coe_c E hn T).mono ?_; rintro e w3 ⟨r3, rfl, H3, h3⟩; replace H1 := H1.grow h3; replace H2 := H2.grow h3; replace E := E.grow h3; replace T := T.grow h3; replace B := B.trans (h3.mono B.size); clear h3; dsimp only) | (go_at_call 60; with_reducible refine (chain1 H2 H3 T).mono ?_; rintro e w4 ⟨r4, rfl, H4, h4⟩; replace H1 := H1.grow h4; replace H2 := H2.grow h4; replace H3 := H3.grow h4; replace E := E.grow h4; replace T := T.grow h4; replace B := B.trans (h4.mono B.size); clear h4; dsimp only) | (go_at_call 51; with_reducible refine (both_c H1 H4 T).mono ?_; rintro e w5 ⟨r5, rfl, H5, h5⟩; replace H1 := H1.grow h5; replace H2 := H2.grow h5; replace H3 := H3.grow h5; replace H4 := H4.grow h5; replace E := E.grow h5; replace T := T.grow h5; replace B := B.trans (h5.mono B.size); clear h5; dsimp only) | (go_at_call 43; have kl := pairs_q H5 T hq; with_reducible refine kl.mono ?_; rintro e w9 ⟨vq, rfl, hR, h9⟩; replace B := B.trans (h9.mono B.size); obtain ⟨ao, cap, rfl⟩ := owns_len hR; dsimp only))
  go_ret
  exact ⟨congrArg (fun b => Ending.returned (.bool b)) (len0 q), B⟩
end Go.Proofs.YtnedkielehmneaaGreatDoor
