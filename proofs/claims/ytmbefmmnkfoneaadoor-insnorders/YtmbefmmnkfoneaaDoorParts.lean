/- The parts of every instruction: a contract. -/
import Derived.Test.YtmbefmmnkfoneaaDoorPartsA
import Derived.Test.YtmbefmmnkfoneaaDoorPartsB
import Derived.Test.YtmbefmmnkfoneaaDoorPartsC
import Derived.Test.YtmbefmmnkfoneaaDoorPartsD
import Derived.Test.YtmbefmmnkfoneaaDoorPartsE
import Derived.Test.YtmbefmmnkfoneaaDoorPartsF
namespace Go.Proofs.YtmbefmmnkfoneaaDoor
open Go.RowKit Go.Rel

theorem partsOf_c (i : Ins) (R : rightB i = true) (w : World) (T : Tab w) : Calls Tryd.prog 23 #[i.val] w fun e w' => ∃ v, e = .returned v ∧ RowT w.heap.size (partsV i) v w' ∧ Below w.heap.size w w' := by
  have G := fits R
  have hr := inR_of R
  have HN := num_of R
  have hm := ops_mem G.o0 G.o1
  obtain ⟨op, sub, rd, rn, rm, ra, imm, imm2, amount, shift, cond, sys, flags, minus, not, link⟩ := i
  simp only [opsL, List.mem_cons, List.not_mem_nil, or_false] at hm
  rcases hm with rfl | rfl | rfl | rfl | rfl | rfl | rfl | rfl | rfl | rfl | rfl | rfl | rfl | rfl | rfl | rfl | rfl | rfl | rfl | rfl | rfl | rfl | rfl | rfl | rfl | rfl | rfl | rfl | rfl | rfl | rfl | rfl | rfl | rfl | rfl | rfl | rfl
  · exact parts1 _ _ _ _ _ _ _ _ _ _ _ _ _ _ _ hr HN w T
  · exact parts2 _ _ _ _ _ _ _ _ _ _ _ _ _ _ _ hr HN ⟨G.t0, Int.le_trans G.t1 (show (shiftS 2).hi ≤ 3 by decide)⟩ w T
  · exact parts3 _ _ _ _ _ _ _ _ _ _ _ _ _ _ _ hr HN ⟨G.t0, G.t1⟩ w T
  · exact parts4 _ _ _ _ _ _ _ _ _ _ _ _ _ _ _ hr w T
  · exact parts5 _ _ _ _ _ _ _ _ _ _ _ _ _ _ _ hr HN w T
  · exact parts6 _ _ _ _ _ _ _ _ _ _ _ _ _ _ _ hr HN w T
  · exact parts7 _ _ _ _ _ _ _ _ _ _ _ _ _ _ _ hr w T
  · exact parts8 _ _ _ _ _ _ _ _ _ _ _ _ _ _ _ hr w T
  · exact parts9 _ _ _ _ _ _ _ _ _ _ _ _ _ _ _ hr w T
  · exact parts10 _ _ _ _ _ _ _ _ _ _ _ _ _ _ _ hr ⟨G.c0, G.c1⟩ w T
  · exact parts11 _ _ _ _ _ _ _ _ _ _ _ _ _ _ _ hr HN w T
  · exact parts12 _ _ _ _ _ _ _ _ _ _ _ _ _ _ _ hr HN w T
  · exact parts13 _ _ _ _ _ _ _ _ _ _ _ _ _ _ _ hr HN w T
  · exact parts14 _ _ _ _ _ _ _ _ _ _ _ _ _ _ _ hr HN w T
  · exact parts15 _ _ _ _ _ _ _ _ _ _ _ _ _ _ _ hr HN w T
  · exact parts16 _ _ _ _ _ _ _ _ _ _ _ _ _ _ _ hr w T
  · exact parts17 _ _ _ _ _ _ _ _ _ _ _ _ _ _ _ hr HN w T
  · exact parts18 _ _ _ _ _ _ _ _ _ _ _ _ _ _ _ hr HN w T
  · exact parts19 _ _ _ _ _ _ _ _ _ _ _ _ _ _ _ hr HN w T
  · exact parts20 _ _ _ _ _ _ _ _ _ _ _ _ _ _ _ hr HN w T
  · exact parts21 _ _ _ _ _ _ _ _ _ _ _ _ _ _ _ hr w T
  · exact parts22 _ _ _ _ _ _ _ _ _ _ _ _ _ _ _ hr w T
  · exact parts23 _ _ _ _ _ _ _ _ _ _ _ _ _ _ _ hr w T
  · exact parts24 _ _ _ _ _ _ _ _ _ _ _ _ _ _ _ hr w T
  · exact parts25 _ _ _ _ _ _ _ _ _ _ _ _ _ _ _ hr w T
  · exact parts26 _ _ _ _ _ _ _ _ _ _ _ _ _ _ _ hr ⟨G.i0, G.i1⟩ w T
  · exact parts27 _ _ _ _ _ _ _ _ _ _ _ _ _ _ _ hr w T
  · exact parts28 _ _ _ _ _ _ _ _ _ _ _ _ _ _ _ hr w T
  · exact parts29 _ _ _ _ _ _ _ _ _ _ _ _ _ _ _ hr w T
  · exact parts30 _ _ _ _ _ _ _ _ _ _ _ _ _ _ _ hr w T
  · exact parts31 _ _ _ _ _ _ _ _ _ _ _ _ _ _ _ hr HN w T
  · exact parts32 _ _ _ _ _ _ _ _ _ _ _ _ _ _ _ hr HN w T
  · exact parts33 _ _ _ _ _ _ _ _ _ _ _ _ _ _ _ hr HN G.s0 G.s1 w T
  · exact parts34 _ _ _ _ _ _ _ _ _ _ _ _ _ _ _ hr HN w T
  · exact parts35 _ _ _ _ _ _ _ _ _ _ _ _ _ _ _ hr HN w T
  · exact parts36 _ _ _ _ _ _ _ _ _ _ _ _ _ _ _ hr w T
  · exact parts37 _ _ _ _ _ _ _ _ _ _ _ _ _ _ _ hr HN w T
end Go.Proofs.YtmbefmmnkfoneaaDoor
