/- What an Op leaves to the fields that tell its words apart: what setForm of package insn writes, whatever the instruction: a contract. -/
import Derived.Test.YtcmilajlngnibaaK07
import Derived.Deep.RegionWith
import Derived.Deep.CutRange
namespace Go.Proofs.Ytcmilajlngnibaa
open Go.RowKit Go.Rel

/-- The blocks that setForm lays behind the room, the instruction's own box first. -/
def formW (op : Int) (W : World) : World :=
  bif op == 2 || op == 16 then W.alloc (.cells #[vI 0, vI 2, vI 1] 54)
  else bif op == 3 then ((W.alloc (.cells #[vI 0, vI 3, vI 1] 54)).alloc (.cells #[vI 0, vI 2, vI 1] 54)).drew
  else bif op == 4 then (W.alloc (.cells #[vI 0, vI 2, vI 1] 54)).drew
  else bif op == 10 then (W.alloc (.cells #[vI 0, vI 15, vI 1] 54)).alloc (.cells #[vI 0, vI 3, vI 1] 54)
  else bif op == 7 || op == 5 then W.alloc (.cells #[vI 0, vI 3, vI 1] 54)
  else bif op == 9 || op == 11 || op == 21 || op == 23 || op == 24 || op == 26 || op == 33 then W.alloc (.cells #[vI 0, vI 1, vI 1] 54)
  else bif op == 13 then W.alloc (.cells #[vI 0, vI 15, vI 1] 54) else W

set_option maxRecDepth 4000 in
set_option maxHeartbeats 8000000 in
theorem setForm_c (i : Ins) (r1 r2 r4 r5 r7 r8 r10 r11 : Int) (o1 o2 : Obj) (w : World) :
    Calls Try.prog 74 #[.pointer (some ⟨w.heap.size, 0, none⟩), i.val] (((w.alloc (.cells #[vI 0, vI r1, vI r2, vI 0, vI r4, vI r5, vI 0, vI r7, vI r8, vI 0, vI r10, vI r11, vI 0, vI 0, vI 0, vI 0, vI 0, vI 0, vI 0, vI 0, vI 0, vI 0, vI 0, vI 0, vI 0, vI 0, vI 0, vI 0, vI 0, vI 0, .bool false, .bool false, .bool false, .bool false] 56)).alloc o1).alloc o2) fun e w' => e = .returned (.tuple #[]) ∧
      w' = formW i.op ((((w.alloc (.cells #[vI 0, vI r1, vI r2, vI 0, vI r4, vI r5, vI 0, vI r7, vI r8, vI 0, vI r10, vI r11, vI (subS i.op).lo, vI (subS i.op).hi, vI (subS i.op).st, vI 0, vI 0, vI 0, vI 0, vI 0, vI 0, vI 0, vI 0, vI 0, vI (shiftS i.op).lo, vI (shiftS i.op).hi, vI (shiftS i.op).st, vI (condS i.op).lo, vI (condS i.op).hi, vI (condS i.op).st, .bool (flagsR i.op i.sub), .bool (minusR i.op), .bool (notR i.op), .bool (linkR i.op)] 56)).alloc o1).alloc o2).alloc (.cells i.cells 25)) := by
  obtain ⟨op, sub, rd, rn, rm, ra, imm, imm2, amount, shift, cond, sys, flags, minus, not, link⟩ := i
  go_enter Try.func74, Try.ntmps74
  repeat' (first | with_reducible refine then_exit ?_ | with_reducible refine then_normal ?_ | with_reducible refine inBlock_eq ?_ | with_reducible refine inBlock_ne rfl ?_ | with_reducible refine inBlock_normal ?_ | (go_at_call 77; refine (upTo_c _ _).mono ?_; rintro e w' ⟨rfl, rfl⟩; dsimp only) | go_step)
  all_goals try (go_region_with (go_at_call 77; refine (upTo_c _ _).mono ?_; rintro e w' ⟨rfl, rfl⟩))
  all_goals repeat' (first | with_reducible refine then_exit ?_ | with_reducible refine then_normal ?_ | with_reducible refine inBlock_eq ?_ | with_reducible refine inBlock_ne rfl ?_ | with_reducible refine inBlock_normal ?_ | go_step)
  all_goals (go_end0; refine ⟨rfl, ?_⟩; rename_i h; first | (obtain rfl := eq_of_beq h; rfl) | (simp only [formW, subS, shiftS, condS, flagsR, minusR, notR, linkR, upToS, zeroS, cond_false, Bool.or_false, Bool.false_and, *]))

theorem setRegisters_b (op : Int) (w : World) (b : Nat) (hb : b = w.heap.size) :
    Calls Try.prog 73 #[.pointer (some ⟨b, 0, none⟩), vI op] (w.alloc (.cells #[vI 0, vI 0, vI 0, vI 0, vI 0, vI 0, vI 0, vI 0, vI 0, vI 0, vI 0, vI 0, vI 0, vI 0, vI 0, vI 0, vI 0, vI 0, vI 0, vI 0, vI 0, vI 0, vI 0, vI 0, vI 0, vI 0, vI 0, vI 0, vI 0, vI 0, .bool false, .bool false, .bool false, .bool false] 56)) fun e w' => e = .returned (.tuple #[]) ∧
      w' = ((w.alloc (.cells #[vI 0, vI (h31 (hasRd op)), vI (h1 (hasRd op)), vI 0, vI (h31 (hasRn op)), vI (h1 (hasRn op)), vI 0, vI (h31 (hasRm op)), vI (h1 (hasRm op)), vI 0, vI (h31 (hasRa op)), vI (h1 (hasRa op)), vI 0, vI 0, vI 0, vI 0, vI 0, vI 0, vI 0, vI 0, vI 0, vI 0, vI 0, vI 0, vI 0, vI 0, vI 0, vI 0, vI 0, vI 0, .bool false, .bool false, .bool false, .bool false] 56)).alloc (.cells #[vI 0, vI 31, vI 1] 54)).alloc (.cells #[vI 0, vI 31, vI 1] 54) := by
  subst hb; exact setRegisters_c op w

theorem setForm_b (i : Ins) (r1 r2 r4 r5 r7 r8 r10 r11 : Int) (o1 o2 : Obj) (w : World) (b : Nat) (hb : b = w.heap.size) :
    Calls Try.prog 74 #[.pointer (some ⟨b, 0, none⟩), i.val] (((w.alloc (.cells #[vI 0, vI r1, vI r2, vI 0, vI r4, vI r5, vI 0, vI r7, vI r8, vI 0, vI r10, vI r11, vI 0, vI 0, vI 0, vI 0, vI 0, vI 0, vI 0, vI 0, vI 0, vI 0, vI 0, vI 0, vI 0, vI 0, vI 0, vI 0, vI 0, vI 0, .bool false, .bool false, .bool false, .bool false] 56)).alloc o1).alloc o2) fun e w' => e = .returned (.tuple #[]) ∧
      w' = formW i.op ((((w.alloc (.cells #[vI 0, vI r1, vI r2, vI 0, vI r4, vI r5, vI 0, vI r7, vI r8, vI 0, vI r10, vI r11, vI (subS i.op).lo, vI (subS i.op).hi, vI (subS i.op).st, vI 0, vI 0, vI 0, vI 0, vI 0, vI 0, vI 0, vI 0, vI 0, vI (shiftS i.op).lo, vI (shiftS i.op).hi, vI (shiftS i.op).st, vI (condS i.op).lo, vI (condS i.op).hi, vI (condS i.op).st, .bool (flagsR i.op i.sub), .bool (minusR i.op), .bool (notR i.op), .bool (linkR i.op)] 56)).alloc o1).alloc o2).alloc (.cells i.cells 25)) := by
  subst hb; exact setForm_c i r1 r2 r4 r5 r7 r8 r10 r11 o1 o2 w
end Go.Proofs.Ytcmilajlngnibaa
