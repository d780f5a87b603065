/- The same contracts of immOf and amountOf, with the world behind the call written out. -/
import Derived.Test.YtcmilajlngnibaaK07
namespace Go.Proofs.Ytcmilajlngnibaa
open Go.RowKit Go.Rel

abbrev w2 (w : World) (i : Ins) (s : Span) : World := (w.alloc (.cells i.cells 25)).alloc (.cells s.cells 54)
abbrev w3 (w : World) (i : Ins) (s : Span) : World := (w2 w i s).alloc (.cells s.cells 54)

def immW (i : Ins) (w : World) : World :=
  bif i.op == 1 || i.op == 4 || i.op == 6 || i.op == 5 || i.op == 34 || i.op == 35 || i.op == 33 || i.op == 37 then w3 w i (immS i.op i.sub)
  else bif i.op == 12 || i.op == 13 || i.op == 14 || i.op == 15 then (w3 w i (immS i.op i.sub)).drew else w2 w i (immS i.op i.sub)
def amountW (op : Int) (w : World) : World :=
  bif op == 2 || op == 3 || op == 15 || op == 4 then (w.alloc (.cells (amountS op).cells 54)).alloc (.cells (amountS op).cells 54) else w.alloc (.cells (amountS op).cells 54)

set_option maxRecDepth 4000 in
set_option maxHeartbeats 4000000 in
theorem immOf_x (i : Ins) (w : World) :
    Calls Try.prog 75 #[i.val] w fun e w' => e = .returned (immS i.op i.sub).val ∧ w' = immW i w := by
  obtain ⟨op, sub, rd, rn, rm, ra, imm, imm2, amount, shift, cond, sys, flags, minus, not, link⟩ := i
  go_enter Try.func75, Try.ntmps75
  repeat' (first | with_reducible refine then_exit ?_ | with_reducible refine then_normal ?_ | with_reducible refine inBlock_eq ?_ | with_reducible refine inBlock_ne rfl ?_ | with_reducible refine inBlock_normal ?_ | (go_at_call 77; refine (upTo_c _ _).mono ?_; rintro e w' ⟨rfl, rfl⟩; dsimp only) | (go_at_call 87; refine (branch_c _ (by decide) _).mono ?_; rintro e w' ⟨rfl, rfl⟩; dsimp only) | go_step)
  all_goals first
    | (rename_i h; obtain rfl := eq_of_beq h; exact bodyPost_ret (v := (immS _ sub).val) (by simp [results, Try.results75, go_sem, immS, upToS, zeroS, brS]) rfl ⟨rfl, rfl⟩)
    | (rename_i h' _ _ h; obtain rfl := eq_of_beq h'; obtain rfl := eq_of_beq h; exact bodyPost_ret (v := (immS 11 1).val) (by simp [results, Try.results75, go_sem, immS, upToS, zeroS, brS]) rfl ⟨rfl, rfl⟩)
    | (rename_i h' h; obtain rfl := eq_of_beq h'; exact bodyPost_ret (v := (immS 11 sub).val) (by simp only [immS, h, cond_false]; simp [results, Try.results75, go_sem]) rfl ⟨rfl, by simp only [immW, immS, h, cond_false]; rfl⟩)
    | (exact bodyPost_ret (v := (immS op sub).val) (by simp only [immS, zeroS, cond_false, Bool.or_false, *]; simp [results, Try.results75, go_sem]) rfl ⟨rfl, by simp only [immW, immS, zeroS, cond_false, Bool.or_false, *]⟩)

set_option maxHeartbeats 4000000 in
theorem amountOf_x (op : Int) (w : World) :
    Calls Try.prog 76 #[vI op] w fun e w' => e = .returned (amountS op).val ∧ w' = amountW op w := by
  go_enter Try.func76, Try.ntmps76
  repeat' (first | with_reducible refine then_exit ?_ | with_reducible refine then_normal ?_ | with_reducible refine inBlock_eq ?_ | with_reducible refine inBlock_ne rfl ?_ | with_reducible refine inBlock_normal ?_ | (go_at_call 77; refine (upTo_c _ _).mono ?_; rintro e w' ⟨rfl, rfl⟩; dsimp only) | go_step)
  all_goals first
    | (rename_i h; obtain rfl := eq_of_beq h; exact bodyPost_ret (v := (amountS _).val) (by simp [results, Try.results76, go_sem, amountS, upToS, zeroS]) rfl ⟨rfl, rfl⟩)
    | (exact bodyPost_ret (v := (amountS op).val) (by simp only [amountS, zeroS, cond_false, Bool.or_false, *]; simp [results, Try.results76, go_sem]) rfl ⟨rfl, by simp only [amountW, amountS, zeroS, cond_false, Bool.or_false, *]⟩)
end Go.Proofs.Ytcmilajlngnibaa
