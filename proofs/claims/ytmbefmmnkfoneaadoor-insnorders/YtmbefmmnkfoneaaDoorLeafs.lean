/- The word of an instruction, and its smaller parts: what package insn writes: contracts. -/
import Derived.Test.YtmbefmmnkfoneaaDoorApart
import Derived.Test.YtmbefmmnkfoneaaDoorUint
import Derived.Test.YtmbefmmnkfoneaaDoorLists
namespace Go.Proofs.YtmbefmmnkfoneaaDoor
open Go.RowKit Go.Rel

theorem One.up (i : Ins) (w0 : World) : Up Grows (fun w => One i w0 w) := fun _ _ h hb => h.grow hb
theorem One.drew {i : Ins} {w0 w : World} (h : One i w0 w) : One i w0 { w with drawn := w.drawn + 1 } := ⟨⟨h.below.os, h.below.tape, h.below.output, h.below.size, h.below.block⟩, h.box⟩
theorem One.at {i : Ins} {w0 w : World} (h : One i w0 w) (k : Nat) (v : Value) (hv : i.cells[k]? = some v) : w.cell? ⟨w0.heap.size, k, none⟩ = some v := by
  show (match w.heap[w0.heap.size]? with | some (.cells c _ _) => if Option.isSome (α := VarRef) none then none else c[k]? | _ => none) = some v
  rw [h.box]
  exact hv
theorem str_app (x y : Tx) : (⟨x.toArray⟩ : ByteArray) ++ ⟨y.toArray⟩ = ⟨(x ++ y).toArray⟩ := by
  apply ByteArray.ext
  simp [ByteArray.data_append]

set_option maxHeartbeats 400000 in
theorem either_c (b : Bool) (x y : Value) (w : World) : Calls Tryd.prog 48 #[.bool b, x, y] w fun e w' => e = .returned (bif b then y else x) ∧ w' = w := by
  cases b
  all_goals
    go_enter Tryd.func48, Tryd.ntmps48
    go_wp2
    go_ret
    exact ⟨rfl, rfl⟩
theorem either_t (b : Bool) (x y : Tx) (w : World) : Calls Tryd.prog 48 #[.bool b, strV x, strV y] w fun e w' => e = .returned (strV (bif b then y else x)) ∧ w' = w := by
  refine (either_c b _ _ w).mono ?_
  rintro e w' ⟨rfl, rfl⟩
  cases b <;> exact ⟨rfl, rfl⟩

set_option maxHeartbeats 400000 in
theorem one_c (k : Int) (n c : Nat) (b o : Nat) (x : Value) (w : World) (h0 : 0 ≤ k) (hk : k < n) (hc : w.cell? ⟨b, o + k.toNat, none⟩ = some x) : Calls Tryd.prog 46 #[vI k, .slice (some ⟨b, o, none⟩) n c] w fun e w' => e = .returned x ∧ w' = w := by
  go_enter Tryd.func46, Tryd.ntmps46
  go_wp2
  go_ret
  exact ⟨rfl, rfl⟩
theorem one_a (w : World) (cs : Array Value) (k : Int) (n b : Nat) (x : Value) (h0 : 0 ≤ k) (hk : k < n) (hb : b = w.heap.size) (hx : cs[k.toNat]? = some x) : Calls Tryd.prog 46 #[vI k, .slice (some ⟨b, 0, none⟩) n n] (w.alloc (.cells cs 9)) fun e w' => e = .returned x ∧ w' = w.alloc (.cells cs 9) := by
  subst hb
  refine one_c k n n _ _ x _ h0 hk ?_
  rw [World.cell?_alloc_new, Nat.zero_add]
  exact hx

set_option maxRecDepth 4000 in
set_option maxHeartbeats 4000000 in
theorem shift_c (k : Int) (h0 : 0 ≤ k) (h1 : k ≤ 3) (w : World) : Calls Tryd.prog 45 #[vI k] w fun e w' => e = .returned (strV (shiftT k)) ∧ Below w.heap.size w w' := by
  have : k = 0 ∨ k = 1 ∨ k = 2 ∨ k = 3 := by omega
  rcases this with rfl | rfl | rfl | rfl
  all_goals
    go_enter Tryd.func45, Tryd.ntmps45
    repeat' (first | with_reducible refine then_exit ?_ | with_reducible refine then_normal ?_ | with_reducible refine inBlock_eq ?_ | with_reducible refine inBlock_ne rfl ?_ | with_reducible refine inBlock_normal ?_ | (go_at_call 46; refine (one_a _ _ _ _ _ _ (by decide) (by decide) (by simp) rfl).mono ?_; rintro e w' ⟨rfl, rfl⟩; dsimp only) | go_step)
    go_ret
    exact ⟨rfl, by repeat (first | exact Below.refl _ _ | apply below_more)⟩

def condArr : Array Value := #[strV [101, 113], strV [110, 101], strV [99, 115], strV [99, 99], strV [109, 105], strV [112, 108], strV [118, 115], strV [118, 99], strV [104, 105], strV [108, 115], strV [103, 101], strV [108, 116], strV [103, 116], strV [108, 101], strV [97, 108], strV [110, 118]]
theorem cond_cell {k : Int} (h0 : 0 ≤ k) (h1 : k ≤ 15) : condArr[k.toNat]? = some (strV (condT k)) := by
  have : k = 0 ∨ k = 1 ∨ k = 2 ∨ k = 3 ∨ k = 4 ∨ k = 5 ∨ k = 6 ∨ k = 7 ∨ k = 8 ∨ k = 9 ∨ k = 10 ∨ k = 11 ∨ k = 12 ∨ k = 13 ∨ k = 14 ∨ k = 15 := by omega
  rcases this with rfl | rfl | rfl | rfl | rfl | rfl | rfl | rfl | rfl | rfl | rfl | rfl | rfl | rfl | rfl | rfl <;> rfl
set_option maxRecDepth 4000 in
set_option maxHeartbeats 4000000 in
theorem condition_c (k : Int) (h0 : 0 ≤ k) (h1 : k ≤ 15) (w : World) : Calls Tryd.prog 43 #[vI k] w fun e w' => e = .returned (strV (condT k)) ∧ Below w.heap.size w w' := by
  have H0 : Hid (0 ≤ k) := h0
  have H1 : Hid (k ≤ 15) := h1
  clear h0 h1
  go_enter Tryd.func43, Tryd.ntmps43
  repeat' (first | with_reducible refine then_exit ?_ | with_reducible refine then_normal ?_ | with_reducible refine inBlock_eq ?_ | with_reducible refine inBlock_ne rfl ?_ | with_reducible refine inBlock_normal ?_ | (go_at_call 46; refine (one_a _ condArr _ _ _ _ H0.out (by have := H1.out; omega) (by simp) (cond_cell H0.out H1.out)).mono ?_; rintro e w' ⟨rfl, rfl⟩; dsimp only) | go_step)
  go_ret
  exact ⟨rfl, by repeat (first | exact Below.refl _ _ | apply below_more)⟩

set_option maxRecDepth 4000 in
set_option maxHeartbeats 4000000 in
theorem logic_c (op sub rd rn rm ra imm imm2 amount shift cond sys : Int) (h0 : 0 ≤ sub) (h1 : sub ≤ 2) (flags minus not link : Bool) (w : World) : Calls Tryd.prog 49 #[(⟨op, sub, rd, rn, rm, ra, imm, imm2, amount, shift, cond, sys, flags, minus, not, link⟩ : Ins).val] w fun e w' => e = .returned (strV (bif not then bicT sub else andT sub)) ∧ Below w.heap.size w w' := by
  have : sub = 0 ∨ sub = 1 ∨ sub = 2 := by omega
  rcases this with rfl | rfl | rfl <;> cases not
  all_goals
    go_enter Tryd.func49, Tryd.ntmps49
    repeat' (first | with_reducible refine then_exit ?_ | with_reducible refine then_normal ?_ | with_reducible refine inBlock_eq ?_ | with_reducible refine inBlock_ne rfl ?_ | with_reducible refine inBlock_normal ?_ | (go_at_call 46; refine (one_a _ _ _ _ _ _ (by decide) (by decide) (by simp) rfl).mono ?_; rintro e w' ⟨rfl, rfl⟩; dsimp only) | go_step)
    go_ret
    exact ⟨rfl, by repeat (first | exact Below.refl _ _ | apply below_more)⟩

end Go.Proofs.YtmbefmmnkfoneaaDoor
