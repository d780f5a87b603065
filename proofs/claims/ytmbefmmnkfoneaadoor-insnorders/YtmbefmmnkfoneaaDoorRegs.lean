/- Which registers an instruction reads, reckons its address of and writes, as sets by bits: contracts, for every instruction whose registers are 0 to 31. -/
import Derived.Test.YtmbefmmnkfoneaaDoorSets
namespace Go.Proofs.YtmbefmmnkfoneaaDoor
open Go.RowKit Go.Rel

def setDV (i : Ins) : Int := bif spD i then stackF i.rd else zeroF i.rd
def setNV (i : Ins) : Int := bif spN i then stackF i.rn else zeroF i.rn
abbrev orS (a b : Int) : Int := bits .or .u32 a b
def readsV (i : Ins) : Int :=
  bif i.op == 8 then orS (orS (orS 0 (zeroF i.ra)) (zeroF i.rm)) (setNV i)
  else bif i.op == 2 || i.op == 3 || i.op == 7 || i.op == 9 || i.op == 10 || i.op == 19 then orS (orS 0 (zeroF i.rm)) (setNV i)
  else bif i.op == 1 || i.op == 4 || i.op == 6 || i.op == 16 || i.op == 17 || i.op == 21 || i.op == 23 then orS 0 (setNV i)
  else bif i.op == 20 then orS (orS (orS 0 (zeroF i.rm)) (setNV i)) (zeroF i.rd)
  else bif i.op == 18 || i.op == 22 || i.op == 24 then orS (orS 0 (setNV i)) (zeroF i.rd)
  else bif i.op == 14 || i.op == 15 || i.op == 28 || i.op == 30 || i.op == 32 then orS 0 (zeroF i.rd)
  else bif i.op == 5 then (bif i.sub == 3 then orS 0 (zeroF i.rd) else 0) else 0
def addressV (i : Ins) : Int :=
  bif i.op == 19 || i.op == 20 then orS (orS 0 (zeroF i.rm)) (setNV i)
  else bif i.op == 17 || i.op == 18 || i.op == 21 || i.op == 22 || i.op == 23 || i.op == 24 then orS 0 (setNV i)
  else bif i.op == 28 || i.op == 30 then orS 0 (zeroF i.rd) else 0
def writesV (i : Ins) : Int :=
  bif i.op == 17 || i.op == 19 || i.op == 21 || i.op == 23 || i.op == 31 then setDV i
  else bif i.op == 24 then zeroF i.rm
  else bif i.op == 12 then (bif i.link then zeroF 30 else 0)
  else bif i.op == 16 then (bif i.sub == 1 then zeroF 30 else 0)
  else bif decide (i.op ≤ 11) then setDV i else 0

structure InR (i : Ins) : Prop where
  d0 : 0 ≤ i.rd
  d1 : i.rd ≤ 31
  n0 : 0 ≤ i.rn
  n1 : i.rn ≤ 31
  m0 : 0 ≤ i.rm
  m1 : i.rm ≤ 31
  a0 : 0 ≤ i.ra
  a1 : i.ra ≤ 31

set_option maxHeartbeats 400000 in
theorem setRd_c (i : Ins) (hr : InR i) (w : World) : Calls Tryd.prog 29 #[i.val] w fun e w' => e = .returned (.int .u32 (setDV i)) ∧ w' = (w.alloc (.cells i.cells 23)).alloc (.cells i.cells 23) := by
  cases hS : spD i
  all_goals
    go_enter Tryd.func29, Tryd.ntmps29
    go_wp2_with (first | (go_at_call 38; refine (stackRd_c i _).mono ?_; rw [hS]; rintro e w' ⟨rfl, rfl⟩) | (go_at_call 54; refine (stackOr_c _ hr.d0 hr.d1 _).mono ?_; rintro e w' ⟨rfl, rfl⟩) | (go_at_call 27; refine (zeroOr_c _ hr.d0 hr.d1 _).mono ?_; rintro e w' ⟨rfl, rfl⟩))
    go_ret
    exact ⟨ret_int (by simp only [setDV, hS]; rfl), rfl⟩

set_option maxHeartbeats 400000 in
theorem setRn_c (i : Ins) (hr : InR i) (w : World) : Calls Tryd.prog 28 #[i.val] w fun e w' => e = .returned (.int .u32 (setNV i)) ∧ w' = (w.alloc (.cells i.cells 23)).alloc (.cells i.cells 23) := by
  cases hS : spN i
  all_goals
    go_enter Tryd.func28, Tryd.ntmps28
    go_wp2_with (first | (go_at_call 39; refine (stackRn_c i _).mono ?_; rw [hS]; rintro e w' ⟨rfl, rfl⟩) | (go_at_call 54; refine (stackOr_c _ hr.n0 hr.n1 _).mono ?_; rintro e w' ⟨rfl, rfl⟩) | (go_at_call 27; refine (zeroOr_c _ hr.n0 hr.n1 _).mono ?_; rintro e w' ⟨rfl, rfl⟩))
    go_ret
    exact ⟨ret_int (by simp only [setNV, hS]; rfl), rfl⟩

set_option maxRecDepth 4000 in
set_option maxHeartbeats 8000000 in
theorem address_c (i : Ins) (hr : InR i) (w : World) : Calls Tryd.prog 16 #[i.val] w fun e w' => e = .returned (.int .u32 (addressV i)) ∧ Below w.heap.size w w' := by
  go_enter Tryd.func16, Tryd.ntmps16
  repeat' (first | with_reducible refine then_exit ?_ | with_reducible refine then_normal ?_ | with_reducible refine inBlock_eq ?_ | with_reducible refine inBlock_ne rfl ?_ | with_reducible refine inBlock_normal ?_ | (go_at_call 28; refine (setRn_c i hr _).mono ?_; rintro e w' ⟨rfl, rfl⟩; dsimp only) | (go_at_call 27; refine (zeroOr_c _ (by first | exact hr.m0 | exact hr.d0 | exact hr.a0 | decide) (by first | exact hr.m1 | exact hr.d1 | exact hr.a1 | decide) _).mono ?_; rintro e w' ⟨rfl, rfl⟩; dsimp only) | go_step)
  all_goals (go_ret; refine ⟨ret_int ?_, by repeat (first | exact Below.refl _ _ | apply below_more)⟩; simp only [addressV, cond_true, cond_false, Bool.or_true, Bool.true_or, Bool.or_false, *])

set_option maxRecDepth 4000 in
set_option maxHeartbeats 8000000 in
theorem reads_c (i : Ins) (hr : InR i) (w : World) : Calls Tryd.prog 14 #[i.val] w fun e w' => e = .returned (.int .u32 (readsV i)) ∧ Below w.heap.size w w' := by
  go_enter Tryd.func14, Tryd.ntmps14
  repeat' (first | with_reducible refine then_exit ?_ | with_reducible refine then_normal ?_ | with_reducible refine inBlock_eq ?_ | with_reducible refine inBlock_ne rfl ?_ | with_reducible refine inBlock_normal ?_ | (go_at_call 28; refine (setRn_c i hr _).mono ?_; rintro e w' ⟨rfl, rfl⟩; dsimp only) | (go_at_call 27; refine (zeroOr_c _ (by first | exact hr.m0 | exact hr.d0 | exact hr.a0 | decide) (by first | exact hr.m1 | exact hr.d1 | exact hr.a1 | decide) _).mono ?_; rintro e w' ⟨rfl, rfl⟩; dsimp only) | go_step)
  all_goals (go_ret; refine ⟨ret_int ?_, by repeat (first | exact Below.refl _ _ | apply below_more)⟩; simp only [readsV, cond_true, cond_false, Bool.or_true, Bool.true_or, Bool.or_false, *])

end Go.Proofs.YtmbefmmnkfoneaaDoor
