/- The word of every instruction: a contract. -/
import Derived.Test.YtmbefmmnkfoneaaDoorWordsA
import Derived.Test.YtmbefmmnkfoneaaDoorWordsB
namespace Go.Proofs.YtmbefmmnkfoneaaDoor
open Go.RowKit Go.Rel

theorem wordOf_c (i : Ins) (R : rightB i = true) (w : World) : Calls Tryd.prog 24 #[i.val] w fun e w' => e = .returned (strV (wordV i)) ∧ Below w.heap.size w w' := by
  have F := fits R
  have hm := ops_mem F.o0 F.o1
  obtain ⟨op, sub, rd, rn, rm, ra, imm, imm2, amount, shift, cond, sys, flags, minus, not, link⟩ := i
  simp only [opsL, List.mem_cons, List.not_mem_nil, or_false] at hm
  rcases hm with rfl | rfl | rfl | rfl | rfl | rfl | rfl | rfl | rfl | rfl | rfl | rfl | rfl | rfl | rfl | rfl | rfl | rfl | rfl | rfl | rfl | rfl | rfl | rfl | rfl | rfl | rfl | rfl | rfl | rfl | rfl | rfl | rfl | rfl | rfl | rfl | rfl
  · exact word1 _ _ _ _ _ _ _ _ _ _ _ _ _ _ _ w
  · exact word2 _ _ _ _ _ _ _ _ _ _ _ _ _ _ _ w
  · exact word3 _ _ _ _ _ _ _ _ _ _ _ _ _ _ _ F.s0 F.s1 w
  · exact word4 _ _ _ _ _ _ _ _ _ _ _ _ _ _ _ F.s0 F.s1 w
  · exact word5 _ _ _ _ _ _ _ _ _ _ _ _ _ _ _ F.s0 F.s1 w
  · exact word6 _ _ _ _ _ _ _ _ _ _ _ _ _ _ _ F.s0 F.s1 w
  · exact word7 _ _ _ _ _ _ _ _ _ _ _ _ _ _ _ F.s0 F.s1 w
  · exact word8 _ _ _ _ _ _ _ _ _ _ _ _ _ _ _ w
  · exact word9 _ _ _ _ _ _ _ _ _ _ _ _ _ _ _ F.s0 F.s1 w
  · exact word10 _ _ _ _ _ _ _ _ _ _ _ _ _ _ _ F.s0 F.s1 w
  · exact word11 _ _ _ _ _ _ _ _ _ _ _ _ _ _ _ F.s0 F.s1 w
  · exact word12 _ _ _ _ _ _ _ _ _ _ _ _ _ _ _ w
  · exact word13 _ _ _ _ _ _ _ _ _ _ _ _ _ _ _ F.c0 F.c1 w
  · exact word14 _ _ _ _ _ _ _ _ _ _ _ _ _ _ _ w
  · exact word15 _ _ _ _ _ _ _ _ _ _ _ _ _ _ _ w
  · exact word16 _ _ _ _ _ _ _ _ _ _ _ _ _ _ _ F.s0 F.s1 w
  · exact word17 _ _ _ _ _ _ _ _ _ _ _ _ _ _ _ w
  · exact word18 _ _ _ _ _ _ _ _ _ _ _ _ _ _ _ w
  · exact word19 _ _ _ _ _ _ _ _ _ _ _ _ _ _ _ w
  · exact word20 _ _ _ _ _ _ _ _ _ _ _ _ _ _ _ w
  · exact word21 _ _ _ _ _ _ _ _ _ _ _ _ _ _ _ F.s0 F.s1 w
  · exact word22 _ _ _ _ _ _ _ _ _ _ _ _ _ _ _ w
  · exact word23 _ _ _ _ _ _ _ _ _ _ _ _ _ _ _ F.s0 F.s1 w
  · exact word24 _ _ _ _ _ _ _ _ _ _ _ _ _ _ _ F.s0 F.s1 w
  · exact word25 _ _ _ _ _ _ _ _ _ _ _ _ _ _ _ w
  · exact word26 _ _ _ _ _ _ _ _ _ _ _ _ _ _ _ F.s0 F.s1 w
  · exact word27 _ _ _ _ _ _ _ _ _ _ _ _ _ _ _ w
  · exact word28 _ _ _ _ _ _ _ _ _ _ _ _ _ _ _ w
  · exact word29 _ _ _ _ _ _ _ _ _ _ _ _ _ _ _ w
  · exact word30 _ _ _ _ _ _ _ _ _ _ _ _ _ _ _ w
  · exact word31 _ _ _ _ _ _ _ _ _ _ _ _ _ _ _ w
  · exact word32 _ _ _ _ _ _ _ _ _ _ _ _ _ _ _ w
  · exact word33 _ _ _ _ _ _ _ _ _ _ _ _ _ _ _ w
  · exact word34 _ _ _ _ _ _ _ _ _ _ _ _ _ _ _ w
  · exact word35 _ _ _ _ _ _ _ _ _ _ _ _ _ _ _ w
  · exact word36 _ _ _ _ _ _ _ _ _ _ _ _ _ _ _ w
  · exact word37 _ _ _ _ _ _ _ _ _ _ _ _ _ _ _ w
end Go.Proofs.YtmbefmmnkfoneaaDoor
