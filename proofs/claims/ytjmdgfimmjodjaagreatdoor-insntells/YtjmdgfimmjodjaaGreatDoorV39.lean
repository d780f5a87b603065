/- How an instruction is written: the parts put behind the word, plain; two laws. -/
import Derived.Test.YtjmdgfimmjodjaaGreatDoorV26
import Derived.Test.YtjmdgfimmjodjaaGreatDoorV27
import Derived.Test.YtjmdgfimmjodjaaGreatDoorV38
namespace Go.Proofs.YtjmdgfimmjodjaaGreatDoor
open Go.RowKit Go.Rel
set_option linter.unusedVariables false
set_option linter.unusedSimpArgs false

theorem shift_in {i : Ins} (h : rightB i = true) : 0 ≤ i.shift ∧ i.shift ≤ 3 := by
  have F := fits h
  have t0 := F.t0
  have t1 := F.t1
  unfold shiftS at t0 t1
  cases h2 : i.op == 2 <;> rw [h2] at t0 t1
  · cases h3 : i.op == 3 <;> rw [h3] at t0 t1
    · exact ⟨t0, Int.le_trans t1 (by decide)⟩
    · exact ⟨t0, t1⟩
  · exact ⟨t0, Int.le_trans t1 (show (2 : Int) ≤ 3 by decide)⟩
theorem cond_in {i : Ins} (h : rightB i = true) : 0 ≤ i.cond ∧ i.cond ≤ 15 := by
  have F := fits h
  have t0 := F.c0
  have t1 := F.c1
  unfold condS at t0 t1
  cases h2 : (i.op == 10 || i.op == 13) <;> rw [h2] at t0 t1
  · exact ⟨t0, Int.le_trans t1 (by decide)⟩
  · exact ⟨t0, t1⟩
/-- A way of shifting, cut out of the four. -/
theorem wpList_cut {ops : Array Oper} {rest : List Oper} {o : Oper} {a : Act} {w : World} {Q : Exit → Act → World → Prop} (hgd : o.guard = none) (lo hi : Operand)
    (ho : o.op = .slice 9 (.const (.string ⟨#[108, 115, 108, 108, 115, 114, 97, 115, 114, 114, 111, 114]⟩)) (some lo) (some hi) none) (s : Int) (h0 : 0 ≤ s) (h3 : s ≤ 3) (hlo : a.eval lo = vI (3 * s)) (hhi : a.eval hi = vI (3 * s + 3))
    (h : wpList Tryz.prog ops Q rest (a.put o.dst (strV (shiftT s))) w) : wpList Tryz.prog ops Q (o :: rest) a w := by
  refine wpList_plain hgd fun K hK => ?_
  have e : (execOp a.eval o).run Tryz.prog w = .ok (.value (strV (shiftT s))) w := by
    rcases (by omega : s = 0 ∨ s = 1 ∨ s = 2 ∨ s = 3) with rfl | rfl | rfl | rfl
    all_goals
      unfold execOp
      simp only [ho, hlo, hhi, Option.map_some, Option.map_none]
      kernel_rfl
  unfold Oper.wp
  rw [e]
  exact hK _ _ h
theorem getD_le {L : List Tx} {c : Nat} (h : ∀ z ∈ L, z.length ≤ c) (k : Nat) : (L.getD k []).length ≤ c := by
  rw [List.getD_eq_getElem?_getD]
  cases e : L[k]? with
  | none => exact Nat.zero_le _
  | some z => exact h z (List.mem_of_getElem? e)
theorem rowT_cell {base g c k : Nat} {n : Nat} {L : List Tx} {w : World} (R : RowT base L (.slice (some ⟨g, 0, none⟩) n c) w) (h : k < L.length) : w.cell? ⟨g, k, none⟩ = some (strV (L.getD k [])) := by
  have hn : n = L.length := by
    rcases R.2 with ⟨e, _⟩ | ⟨g', cap, cur, e, _⟩
    · cases e
    · exact (Value.slice.inj e).2.1
  subst hn
  have e : w.cell? ⟨g, k, none⟩ = (L.map strV)[k]? := World.ownsRow.cellAt R k (by omega)
  rw [e, List.getElem?_map, List.getElem?_eq_getElem h, List.getD_eq_getElem?_getD, List.getElem?_eq_getElem h]
  rfl
section
variable (v a b c d : Tx)
theorem txt0 : textOf v [] = accT v [] 0 := rfl
theorem txt1 : textOf v [a] = accT v [a] 1 := by simp [textOf, accT, Lib.join]
theorem txt2 : textOf v [a, b] = accT v [a, b] 2 := by simp [textOf, accT, Lib.join]
theorem txt3 : textOf v [a, b, c] = accT v [a, b, c] 3 := by simp [textOf, accT, Lib.join]
theorem txt4 : textOf v [a, b, c, d] = accT v [a, b, c, d] 4 := by simp [textOf, accT, Lib.join]
theorem txtP1 : textOf v [a, placeT [b]] = accT v [a, ([91] ++ b) ++ [93]] 2 := by simp [textOf, accT, Lib.join, placeT]
theorem txtP2 : textOf v [a, placeT [b, c]] = accT v [a, [91] ++ b, c ++ [93]] 3 := by simp [textOf, accT, Lib.join, placeT]
theorem txtP3 : textOf v [a, placeT [b, c, d]] = accT v [a, [91] ++ b, c, d ++ [93]] 4 := by simp [textOf, accT, Lib.join, placeT]
theorem txtP4 : textOf v [c, a, placeT [b]] = accT v [c, a, ([91] ++ b) ++ [93]] 3 := by simp [textOf, accT, Lib.join, placeT]
end
/-- The parts, as the document lays them. -/
def docP (i : Ins) : List Tx :=
  bif i.op == 6 then [rdT i, rnT i, ([35] ++ Lib.itoa i.imm), [35] ++ Lib.itoa i.imm2] else
  bif i.op == 7 || i.op == 9 then [rdT i, rnT i, regT i.rm false] else
  bif i.op == 8 then [rdT i, rnT i, regT i.rm false, regT i.ra false] else
  bif i.op == 10 then [rdT i, rnT i, regT i.rm false, condT i.cond] else
  bif i.op == 11 || i.op == 14 then [rdT i, ([35] ++ Lib.itoa i.imm)] else
  bif i.op == 12 || i.op == 13 || i.op == 34 || i.op == 35 || i.op == 37 then [([35] ++ Lib.itoa i.imm)] else
  bif i.op == 15 then [rdT i, ([35] ++ Lib.itoa i.amount), ([35] ++ Lib.itoa i.imm)] else
  bif i.op == 16 then [rnT i] else
  bif i.op == 17 || i.op == 18 then [rdT i, [91] ++ rnT i, ([35] ++ Lib.itoa i.imm) ++ [93]] else
  bif i.op == 19 || i.op == 20 then [rdT i, [91] ++ rnT i, regT i.rm false, ([108, 115, 108, 32] ++ ([35] ++ Lib.itoa i.amount)) ++ [93]] else
  bif i.op == 21 || i.op == 22 || i.op == 23 then [rdT i, ([91] ++ rnT i) ++ [93]] else
  bif i.op == 24 then [regT i.rm false, rdT i, ([91] ++ rnT i) ++ [93]] else
  bif i.op == 28 || i.op == 30 then [rdT i] else
  bif i.op == 31 then [rdT i, [35] ++ Lib.itoa i.sys] else
  bif i.op == 32 then [[35] ++ Lib.itoa i.sys, rdT i] else
  []
theorem doc_text {i : Ins} (hg : i.op = 6 ∨ i.op = 7 ∨ i.op = 8 ∨ i.op = 9 ∨ i.op = 10 ∨ i.op = 11 ∨ i.op = 12 ∨ i.op = 13 ∨ i.op = 14 ∨ i.op = 15 ∨ i.op = 16 ∨ i.op = 17 ∨ i.op = 18 ∨ i.op = 19 ∨ i.op = 20 ∨ i.op = 21 ∨ i.op = 22 ∨ i.op = 23 ∨ i.op = 24 ∨ i.op = 25 ∨ i.op = 27 ∨ i.op = 28 ∨ i.op = 29 ∨ i.op = 30 ∨ i.op = 31 ∨ i.op = 32 ∨ i.op = 34 ∨ i.op = 35 ∨ i.op = 36 ∨ i.op = 37) : accT (wordV i) (docP i) (docP i).length = textV i := by
  rw [show textV i = textOf (wordV i) (partsV i) from rfl]
  rcases hg with h | h | h | h | h | h | h | h | h | h | h | h | h | h | h | h | h | h | h | h | h | h | h | h | h | h | h | h | h | h
  · rw [show docP i = [rdT i, rnT i, ([35] ++ Lib.itoa i.imm), [35] ++ Lib.itoa i.imm2] from by unfold docP; rw [h]; rfl, show partsV i = [rdT i, rnT i, numT i.imm, numT i.imm2] from by unfold partsV rdT rnT rmT spD spN; rw [h]; rfl]
    exact (txt4 _ _ _ _ _).symm
  · rw [show docP i = [rdT i, rnT i, regT i.rm false] from by unfold docP; rw [h]; rfl, show partsV i = [rdT i, rnT i, rmT i] from by unfold partsV rdT rnT rmT spD spN; rw [h]; rfl]
    exact (txt3 _ _ _ _).symm
  · rw [show docP i = [rdT i, rnT i, regT i.rm false, regT i.ra false] from by unfold docP; rw [h]; rfl, show partsV i = [rdT i, rnT i, rmT i, regT i.ra false] from by unfold partsV rdT rnT rmT spD spN; rw [h]; rfl]
    exact (txt4 _ _ _ _ _).symm
  · rw [show docP i = [rdT i, rnT i, regT i.rm false] from by unfold docP; rw [h]; rfl, show partsV i = [rdT i, rnT i, rmT i] from by unfold partsV rdT rnT rmT spD spN; rw [h]; rfl]
    exact (txt3 _ _ _ _).symm
  · rw [show docP i = [rdT i, rnT i, regT i.rm false, condT i.cond] from by unfold docP; rw [h]; rfl, show partsV i = [rdT i, rnT i, rmT i, condT i.cond] from by unfold partsV rdT rnT rmT spD spN; rw [h]; rfl]
    exact (txt4 _ _ _ _ _).symm
  · rw [show docP i = [rdT i, ([35] ++ Lib.itoa i.imm)] from by unfold docP; rw [h]; rfl, show partsV i = [rdT i, numT i.imm] from by unfold partsV rdT rnT rmT spD spN; rw [h]; rfl]
    exact (txt2 _ _ _).symm
  · rw [show docP i = [([35] ++ Lib.itoa i.imm)] from by unfold docP; rw [h]; rfl, show partsV i = [numT i.imm] from by unfold partsV rdT rnT rmT spD spN; rw [h]; rfl]
    exact (txt1 _ _).symm
  · rw [show docP i = [([35] ++ Lib.itoa i.imm)] from by unfold docP; rw [h]; rfl, show partsV i = [numT i.imm] from by unfold partsV rdT rnT rmT spD spN; rw [h]; rfl]
    exact (txt1 _ _).symm
  · rw [show docP i = [rdT i, ([35] ++ Lib.itoa i.imm)] from by unfold docP; rw [h]; rfl, show partsV i = [rdT i, numT i.imm] from by unfold partsV rdT rnT rmT spD spN; rw [h]; rfl]
    exact (txt2 _ _ _).symm
  · rw [show docP i = [rdT i, ([35] ++ Lib.itoa i.amount), ([35] ++ Lib.itoa i.imm)] from by unfold docP; rw [h]; rfl, show partsV i = [rdT i, numT i.amount, numT i.imm] from by unfold partsV rdT rnT rmT spD spN; rw [h]; rfl]
    exact (txt3 _ _ _ _).symm
  · rw [show docP i = [rnT i] from by unfold docP; rw [h]; rfl, show partsV i = [rnT i] from by unfold partsV rdT rnT rmT spD spN; rw [h]; rfl]
    exact (txt1 _ _).symm
  · rw [show docP i = [rdT i, [91] ++ rnT i, ([35] ++ Lib.itoa i.imm) ++ [93]] from by unfold docP; rw [h]; rfl, show partsV i = [rdT i, placeT [rnT i, numT i.imm]] from by unfold partsV rdT rnT rmT spD spN; rw [h]; rfl]
    exact (txtP2 _ _ _ _).symm
  · rw [show docP i = [rdT i, [91] ++ rnT i, ([35] ++ Lib.itoa i.imm) ++ [93]] from by unfold docP; rw [h]; rfl, show partsV i = [rdT i, placeT [rnT i, numT i.imm]] from by unfold partsV rdT rnT rmT spD spN; rw [h]; rfl]
    exact (txtP2 _ _ _ _).symm
  · rw [show docP i = [rdT i, [91] ++ rnT i, regT i.rm false, ([108, 115, 108, 32] ++ ([35] ++ Lib.itoa i.amount)) ++ [93]] from by unfold docP; rw [h]; rfl, show partsV i = [rdT i, placeT [rnT i, rmT i, sftT 0 i.amount]] from by unfold partsV rdT rnT rmT spD spN; rw [h]; rfl]
    exact (txtP3 _ _ _ _ _).symm
  · rw [show docP i = [rdT i, [91] ++ rnT i, regT i.rm false, ([108, 115, 108, 32] ++ ([35] ++ Lib.itoa i.amount)) ++ [93]] from by unfold docP; rw [h]; rfl, show partsV i = [rdT i, placeT [rnT i, rmT i, sftT 0 i.amount]] from by unfold partsV rdT rnT rmT spD spN; rw [h]; rfl]
    exact (txtP3 _ _ _ _ _).symm
  · rw [show docP i = [rdT i, ([91] ++ rnT i) ++ [93]] from by unfold docP; rw [h]; rfl, show partsV i = [rdT i, placeT [rnT i]] from by unfold partsV rdT rnT rmT spD spN; rw [h]; rfl]
    exact (txtP1 _ _ _).symm
  · rw [show docP i = [rdT i, ([91] ++ rnT i) ++ [93]] from by unfold docP; rw [h]; rfl, show partsV i = [rdT i, placeT [rnT i]] from by unfold partsV rdT rnT rmT spD spN; rw [h]; rfl]
    exact (txtP1 _ _ _).symm
  · rw [show docP i = [rdT i, ([91] ++ rnT i) ++ [93]] from by unfold docP; rw [h]; rfl, show partsV i = [rdT i, placeT [rnT i]] from by unfold partsV rdT rnT rmT spD spN; rw [h]; rfl]
    exact (txtP1 _ _ _).symm
  · rw [show docP i = [regT i.rm false, rdT i, ([91] ++ rnT i) ++ [93]] from by unfold docP; rw [h]; rfl, show partsV i = [rmT i, rdT i, placeT [rnT i]] from by unfold partsV rdT rnT rmT spD spN; rw [h]; rfl]
    exact (txtP4 _ _ _ _).symm
  · rw [show docP i = [] from by unfold docP; rw [h]; rfl, show partsV i = [] from by unfold partsV rdT rnT rmT spD spN; rw [h]; rfl]
    exact (txt0 _).symm
  · rw [show docP i = [] from by unfold docP; rw [h]; rfl, show partsV i = [] from by unfold partsV rdT rnT rmT spD spN; rw [h]; rfl]
    exact (txt0 _).symm
  · rw [show docP i = [rdT i] from by unfold docP; rw [h]; rfl, show partsV i = [rdT i] from by unfold partsV rdT rnT rmT spD spN; rw [h]; rfl]
    exact (txt1 _ _).symm
  · rw [show docP i = [] from by unfold docP; rw [h]; rfl, show partsV i = [] from by unfold partsV rdT rnT rmT spD spN; rw [h]; rfl]
    exact (txt0 _).symm
  · rw [show docP i = [rdT i] from by unfold docP; rw [h]; rfl, show partsV i = [rdT i] from by unfold partsV rdT rnT rmT spD spN; rw [h]; rfl]
    exact (txt1 _ _).symm
  · rw [show docP i = [rdT i, [35] ++ Lib.itoa i.sys] from by unfold docP; rw [h]; rfl, show partsV i = [rdT i, numT i.sys] from by unfold partsV rdT rnT rmT spD spN; rw [h]; rfl]
    exact (txt2 _ _ _).symm
  · rw [show docP i = [[35] ++ Lib.itoa i.sys, rdT i] from by unfold docP; rw [h]; rfl, show partsV i = [numT i.sys, rdT i] from by unfold partsV rdT rnT rmT spD spN; rw [h]; rfl]
    exact (txt2 _ _ _).symm
  · rw [show docP i = [([35] ++ Lib.itoa i.imm)] from by unfold docP; rw [h]; rfl, show partsV i = [numT i.imm] from by unfold partsV rdT rnT rmT spD spN; rw [h]; rfl]
    exact (txt1 _ _).symm
  · rw [show docP i = [([35] ++ Lib.itoa i.imm)] from by unfold docP; rw [h]; rfl, show partsV i = [numT i.imm] from by unfold partsV rdT rnT rmT spD spN; rw [h]; rfl]
    exact (txt1 _ _).symm
  · rw [show docP i = [] from by unfold docP; rw [h]; rfl, show partsV i = [] from by unfold partsV rdT rnT rmT spD spN; rw [h]; rfl]
    exact (txt0 _).symm
  · rw [show docP i = [([35] ++ Lib.itoa i.imm)] from by unfold docP; rw [h]; rfl, show partsV i = [numT i.imm] from by unfold partsV rdT rnT rmT spD spN; rw [h]; rfl]
    exact (txt1 _ _).symm
theorem doc_len {i : Ins} (hR : rightB i = true) (hg : i.op = 6 ∨ i.op = 7 ∨ i.op = 8 ∨ i.op = 9 ∨ i.op = 10 ∨ i.op = 11 ∨ i.op = 12 ∨ i.op = 13 ∨ i.op = 14 ∨ i.op = 15 ∨ i.op = 16 ∨ i.op = 17 ∨ i.op = 18 ∨ i.op = 19 ∨ i.op = 20 ∨ i.op = 21 ∨ i.op = 22 ∨ i.op = 23 ∨ i.op = 24 ∨ i.op = 25 ∨ i.op = 27 ∨ i.op = 28 ∨ i.op = 29 ∨ i.op = 30 ∨ i.op = 31 ∨ i.op = 32 ∨ i.op = 34 ∨ i.op = 35 ∨ i.op = 36 ∨ i.op = 37) : ∀ z ∈ docP i, z.length ≤ 100 := by
  have hr := inR_of hR
  have HN := num_of hR
  obtain ⟨c0, c1⟩ := cond_in hR
  have ld : (rdT i).length ≤ 22 := reg_len _ hr.d0 hr.d1
  have ln : (rnT i).length ≤ 22 := reg_len _ hr.n0 hr.n1
  have lm : (regT i.rm false).length ≤ 22 := reg_len _ hr.m0 hr.m1
  have la : (regT i.ra false).length ≤ 22 := reg_len _ hr.a0 hr.a1
  have li : (Lib.itoa i.imm).length ≤ 21 := itoa_le HN.i0 HN.i1
  have lj : (Lib.itoa i.imm2).length ≤ 21 := itoa_le HN.j0 HN.j1
  have lk : (Lib.itoa i.amount).length ≤ 21 := itoa_le HN.k0 HN.k1
  have ly : (Lib.itoa i.sys).length ≤ 21 := itoa_le HN.y0 HN.y1
  have lc : (condT i.cond).length ≤ 2 := cond_short c0 c1
  intro z hz
  rcases hg with h | h | h | h | h | h | h | h | h | h | h | h | h | h | h | h | h | h | h | h | h | h | h | h | h | h | h | h | h | h
  · rw [show docP i = [rdT i, rnT i, ([35] ++ Lib.itoa i.imm), [35] ++ Lib.itoa i.imm2] from by unfold docP; rw [h]; rfl] at hz
    simp only [List.mem_cons, List.not_mem_nil, or_false] at hz
    rcases hz with rfl | rfl | rfl | rfl <;> (try simp only [List.length_append, List.length_cons, List.length_nil]) <;> omega
  · rw [show docP i = [rdT i, rnT i, regT i.rm false] from by unfold docP; rw [h]; rfl] at hz
    simp only [List.mem_cons, List.not_mem_nil, or_false] at hz
    rcases hz with rfl | rfl | rfl <;> (try simp only [List.length_append, List.length_cons, List.length_nil]) <;> omega
  · rw [show docP i = [rdT i, rnT i, regT i.rm false, regT i.ra false] from by unfold docP; rw [h]; rfl] at hz
    simp only [List.mem_cons, List.not_mem_nil, or_false] at hz
    rcases hz with rfl | rfl | rfl | rfl <;> (try simp only [List.length_append, List.length_cons, List.length_nil]) <;> omega
  · rw [show docP i = [rdT i, rnT i, regT i.rm false] from by unfold docP; rw [h]; rfl] at hz
    simp only [List.mem_cons, List.not_mem_nil, or_false] at hz
    rcases hz with rfl | rfl | rfl <;> (try simp only [List.length_append, List.length_cons, List.length_nil]) <;> omega
  · rw [show docP i = [rdT i, rnT i, regT i.rm false, condT i.cond] from by unfold docP; rw [h]; rfl] at hz
    simp only [List.mem_cons, List.not_mem_nil, or_false] at hz
    rcases hz with rfl | rfl | rfl | rfl <;> (try simp only [List.length_append, List.length_cons, List.length_nil]) <;> omega
  · rw [show docP i = [rdT i, ([35] ++ Lib.itoa i.imm)] from by unfold docP; rw [h]; rfl] at hz
    simp only [List.mem_cons, List.not_mem_nil, or_false] at hz
    rcases hz with rfl | rfl <;> (try simp only [List.length_append, List.length_cons, List.length_nil]) <;> omega
  · rw [show docP i = [([35] ++ Lib.itoa i.imm)] from by unfold docP; rw [h]; rfl] at hz
    simp only [List.mem_cons, List.not_mem_nil, or_false] at hz
    rcases hz with rfl <;> (try simp only [List.length_append, List.length_cons, List.length_nil]) <;> omega
  · rw [show docP i = [([35] ++ Lib.itoa i.imm)] from by unfold docP; rw [h]; rfl] at hz
    simp only [List.mem_cons, List.not_mem_nil, or_false] at hz
    rcases hz with rfl <;> (try simp only [List.length_append, List.length_cons, List.length_nil]) <;> omega
  · rw [show docP i = [rdT i, ([35] ++ Lib.itoa i.imm)] from by unfold docP; rw [h]; rfl] at hz
    simp only [List.mem_cons, List.not_mem_nil, or_false] at hz
    rcases hz with rfl | rfl <;> (try simp only [List.length_append, List.length_cons, List.length_nil]) <;> omega
  · rw [show docP i = [rdT i, ([35] ++ Lib.itoa i.amount), ([35] ++ Lib.itoa i.imm)] from by unfold docP; rw [h]; rfl] at hz
    simp only [List.mem_cons, List.not_mem_nil, or_false] at hz
    rcases hz with rfl | rfl | rfl <;> (try simp only [List.length_append, List.length_cons, List.length_nil]) <;> omega
  · rw [show docP i = [rnT i] from by unfold docP; rw [h]; rfl] at hz
    simp only [List.mem_cons, List.not_mem_nil, or_false] at hz
    rcases hz with rfl <;> (try simp only [List.length_append, List.length_cons, List.length_nil]) <;> omega
  · rw [show docP i = [rdT i, [91] ++ rnT i, ([35] ++ Lib.itoa i.imm) ++ [93]] from by unfold docP; rw [h]; rfl] at hz
    simp only [List.mem_cons, List.not_mem_nil, or_false] at hz
    rcases hz with rfl | rfl | rfl <;> (try simp only [List.length_append, List.length_cons, List.length_nil]) <;> omega
  · rw [show docP i = [rdT i, [91] ++ rnT i, ([35] ++ Lib.itoa i.imm) ++ [93]] from by unfold docP; rw [h]; rfl] at hz
    simp only [List.mem_cons, List.not_mem_nil, or_false] at hz
    rcases hz with rfl | rfl | rfl <;> (try simp only [List.length_append, List.length_cons, List.length_nil]) <;> omega
  · rw [show docP i = [rdT i, [91] ++ rnT i, regT i.rm false, ([108, 115, 108, 32] ++ ([35] ++ Lib.itoa i.amount)) ++ [93]] from by unfold docP; rw [h]; rfl] at hz
    simp only [List.mem_cons, List.not_mem_nil, or_false] at hz
    rcases hz with rfl | rfl | rfl | rfl <;> (try simp only [List.length_append, List.length_cons, List.length_nil]) <;> omega
  · rw [show docP i = [rdT i, [91] ++ rnT i, regT i.rm false, ([108, 115, 108, 32] ++ ([35] ++ Lib.itoa i.amount)) ++ [93]] from by unfold docP; rw [h]; rfl] at hz
    simp only [List.mem_cons, List.not_mem_nil, or_false] at hz
    rcases hz with rfl | rfl | rfl | rfl <;> (try simp only [List.length_append, List.length_cons, List.length_nil]) <;> omega
  · rw [show docP i = [rdT i, ([91] ++ rnT i) ++ [93]] from by unfold docP; rw [h]; rfl] at hz
    simp only [List.mem_cons, List.not_mem_nil, or_false] at hz
    rcases hz with rfl | rfl <;> (try simp only [List.length_append, List.length_cons, List.length_nil]) <;> omega
  · rw [show docP i = [rdT i, ([91] ++ rnT i) ++ [93]] from by unfold docP; rw [h]; rfl] at hz
    simp only [List.mem_cons, List.not_mem_nil, or_false] at hz
    rcases hz with rfl | rfl <;> (try simp only [List.length_append, List.length_cons, List.length_nil]) <;> omega
  · rw [show docP i = [rdT i, ([91] ++ rnT i) ++ [93]] from by unfold docP; rw [h]; rfl] at hz
    simp only [List.mem_cons, List.not_mem_nil, or_false] at hz
    rcases hz with rfl | rfl <;> (try simp only [List.length_append, List.length_cons, List.length_nil]) <;> omega
  · rw [show docP i = [regT i.rm false, rdT i, ([91] ++ rnT i) ++ [93]] from by unfold docP; rw [h]; rfl] at hz
    simp only [List.mem_cons, List.not_mem_nil, or_false] at hz
    rcases hz with rfl | rfl | rfl <;> (try simp only [List.length_append, List.length_cons, List.length_nil]) <;> omega
  · rw [show docP i = [] from by unfold docP; rw [h]; rfl] at hz
    simp only [List.mem_cons, List.not_mem_nil, or_false] at hz
  · rw [show docP i = [] from by unfold docP; rw [h]; rfl] at hz
    simp only [List.mem_cons, List.not_mem_nil, or_false] at hz
  · rw [show docP i = [rdT i] from by unfold docP; rw [h]; rfl] at hz
    simp only [List.mem_cons, List.not_mem_nil, or_false] at hz
    rcases hz with rfl <;> (try simp only [List.length_append, List.length_cons, List.length_nil]) <;> omega
  · rw [show docP i = [] from by unfold docP; rw [h]; rfl] at hz
    simp only [List.mem_cons, List.not_mem_nil, or_false] at hz
  · rw [show docP i = [rdT i] from by unfold docP; rw [h]; rfl] at hz
    simp only [List.mem_cons, List.not_mem_nil, or_false] at hz
    rcases hz with rfl <;> (try simp only [List.length_append, List.length_cons, List.length_nil]) <;> omega
  · rw [show docP i = [rdT i, [35] ++ Lib.itoa i.sys] from by unfold docP; rw [h]; rfl] at hz
    simp only [List.mem_cons, List.not_mem_nil, or_false] at hz
    rcases hz with rfl | rfl <;> (try simp only [List.length_append, List.length_cons, List.length_nil]) <;> omega
  · rw [show docP i = [[35] ++ Lib.itoa i.sys, rdT i] from by unfold docP; rw [h]; rfl] at hz
    simp only [List.mem_cons, List.not_mem_nil, or_false] at hz
    rcases hz with rfl | rfl <;> (try simp only [List.length_append, List.length_cons, List.length_nil]) <;> omega
  · rw [show docP i = [([35] ++ Lib.itoa i.imm)] from by unfold docP; rw [h]; rfl] at hz
    simp only [List.mem_cons, List.not_mem_nil, or_false] at hz
    rcases hz with rfl <;> (try simp only [List.length_append, List.length_cons, List.length_nil]) <;> omega
  · rw [show docP i = [([35] ++ Lib.itoa i.imm)] from by unfold docP; rw [h]; rfl] at hz
    simp only [List.mem_cons, List.not_mem_nil, or_false] at hz
    rcases hz with rfl <;> (try simp only [List.length_append, List.length_cons, List.length_nil]) <;> omega
  · rw [show docP i = [] from by unfold docP; rw [h]; rfl] at hz
    simp only [List.mem_cons, List.not_mem_nil, or_false] at hz
  · rw [show docP i = [([35] ++ Lib.itoa i.imm)] from by unfold docP; rw [h]; rfl] at hz
    simp only [List.mem_cons, List.not_mem_nil, or_false] at hz
    rcases hz with rfl <;> (try simp only [List.length_append, List.length_cons, List.length_nil]) <;> omega
end Go.Proofs.YtjmdgfimmjodjaaGreatDoor
/- How an instruction is written, as the document's own answer writes it: Ops 25, 27, 29, 36. -/
namespace Go.Proofs.YtjmdgfimmjodjaaGreatDoor
open Go.RowKit Go.Rel
set_option linter.unusedVariables false
set_option linter.unusedSimpArgs false
set_option maxRecDepth 8000

set_option maxHeartbeats 16000000 in
theorem tx_0 (i : Ins) (hR : rightB i = true) (hg : i.op = 25 ∨ i.op = 27 ∨ i.op = 29 ∨ i.op = 36) (w : World) : Calls Tryz.prog 10 #[i.val] w fun e w' => e = .returned (.tuple #[strV (textV i), .bool true]) ∧ Below w.heap.size w w' := by
  have ho : i.op = 6 ∨ i.op = 7 ∨ i.op = 8 ∨ i.op = 9 ∨ i.op = 10 ∨ i.op = 11 ∨ i.op = 12 ∨ i.op = 13 ∨ i.op = 14 ∨ i.op = 15 ∨ i.op = 16 ∨ i.op = 17 ∨ i.op = 18 ∨ i.op = 19 ∨ i.op = 20 ∨ i.op = 21 ∨ i.op = 22 ∨ i.op = 23 ∨ i.op = 24 ∨ i.op = 25 ∨ i.op = 27 ∨ i.op = 28 ∨ i.op = 29 ∨ i.op = 30 ∨ i.op = 31 ∨ i.op = 32 ∨ i.op = 34 ∨ i.op = 35 ∨ i.op = 36 ∨ i.op = 37 := by rcases hg with h | h | h | h <;> simp [h]
  have hT2 : Hid (accT (wordV i) (docP i) (docP i).length = textV i) := doc_text ho
  have hL0 : Hid (∀ k, ((docP i).getD k []).length ≤ 100) := getD_le (doc_len hR ho)
  clear ho
  have H1 := one_start i w
  have hr := inR_of hR
  have HN := num_of hR
  obtain ⟨s0, s3⟩ := shift_in hR
  obtain ⟨c0, c1⟩ := cond_in hR
  have ld : (rdT i).length ≤ 22 := reg_len _ hr.d0 hr.d1
  have ln : (rnT i).length ≤ 22 := reg_len _ hr.n0 hr.n1
  have lm : (regT i.rm false).length ≤ 22 := reg_len _ hr.m0 hr.m1
  have la : (regT i.ra false).length ≤ 22 := reg_len _ hr.a0 hr.a1
  have li : (Lib.itoa i.imm).length ≤ 21 := itoa_le HN.i0 HN.i1
  have lj : (Lib.itoa i.imm2).length ≤ 21 := itoa_le HN.j0 HN.j1
  have lk : (Lib.itoa i.amount).length ≤ 21 := itoa_le HN.k0 HN.k1
  have ly : (Lib.itoa i.sys).length ≤ 21 := itoa_le HN.y0 HN.y1
  have m0 := hr.m0
  have m1 := hr.m1
  have a0 := hr.a0
  have a1 := hr.a1
  have i0 := HN.i0
  have i1 := HN.i1
  have j0 := HN.j0
  have j1 := HN.j1
  have k0 := HN.k0
  have k1 := HN.k1
  have y0 := HN.y0
  have y1 := HN.y1
  have hwd := word_len hR
  go_enter Tryz.func10, Tryz.ntmps10
  go_upto_region 4 with (first | (refine wpList_load_if rfl 23 _ rfl w.heap.size rfl 23 _ (0, 0) _ H1.box Tryz.underlying23 rfl (by kernel_rfl) ?_; simp only [Act.put, List.setIfInBounds_toArray, List.set_cons_succ, List.set_cons_zero]) | (go_at_call 5; refine (rright_c i _).mono ?_; rw [hR]; rintro e w2 ⟨rfl, hb2⟩; replace H1 := H1.grow hb2; clear hb2; dsimp only))
  refine wp_region_rel Grows (fun x => One i w x) [.inl (.pointer (some ⟨w.heap.size, 2, none⟩)), .inl (vI i.rd), .inl i.val, .inl (.bool (spD i)), .inl (strV (rdT i)), .inl (strV (rdT i))] (by kernel_rfl) (by kernel_rfl) (One.up i w) (H1.grow (below_drawn1 _)) (by simp only [List.mem_cons, List.not_mem_nil, or_false]; rintro k hk; rcases hk with rfl | rfl | rfl | rfl | rfl | rfl <;> trivial) ?_
  refine ⟨fun w1 hC hF => ?_, ?_⟩
  · go_simp
    first | exact ⟨Below.refl _ _, rfl⟩ | exact Below.refl _ _
  simp only [Act.put, List.setIfInBounds_toArray, List.set_cons_succ, List.set_cons_zero]
  refine ⟨fun w1 hC hF => ?_, ?_⟩
  · have gg := hC.at 2 (vI i.rd) rfl
    go_simp
    first | exact ⟨Below.refl _ _, rfl⟩ | exact Below.refl _ _
  simp only [Act.put, List.setIfInBounds_toArray, List.set_cons_succ, List.set_cons_zero]
  refine ⟨fun w1 hC _ => rel_load_row 23 _ rfl w.heap.size rfl 23 i.cells (0, 0) _ hC.box Tryz.underlying23 rfl (by kernel_rfl), ?_⟩
  simp only [Act.put, List.setIfInBounds_toArray, List.set_cons_succ, List.set_cons_zero]
  refine ⟨fun w1 hC hF => ?_, ?_⟩
  · go_simp
    refine (rspD_c i w1).mono ?_
    rintro e w4 ⟨rfl, hb⟩
    first | exact ⟨rfl, hb⟩ | exact ⟨_, rfl, hb, rfl⟩
  simp only [Act.put, List.setIfInBounds_toArray, List.set_cons_succ, List.set_cons_zero]
  refine ⟨fun w1 hC hF => ?_, ?_⟩
  · go_simp
    refine (rname_c i.rd (spD i) hr.d0 hr.d1 w1).mono ?_
    rintro e w4 ⟨rfl, hb⟩
    first | exact ⟨rfl, hb⟩ | exact ⟨_, rfl, hb, rfl⟩
  simp only [Act.put, List.setIfInBounds_toArray, List.set_cons_succ, List.set_cons_zero]
  refine ⟨fun w1 hC hF => ?_, ?_⟩
  · go_simp
    first | exact ⟨Below.refl _ _, rfl⟩ | exact Below.refl _ _
  simp only [Act.put, List.setIfInBounds_toArray, List.set_cons_succ, List.set_cons_zero]
  clear H1
  intro w1 H1 hF
  clear hF
  refine then_normal ?_
  go_upto_region 5 with fail
  refine wp_region_rel Grows (fun x => One i w x) [.inl (.pointer (some ⟨w.heap.size, 3, none⟩)), .inl (vI i.rn), .inl i.val, .inl (.bool (spN i)), .inl (strV (rnT i)), .inl (strV (rnT i))] (by kernel_rfl) (by kernel_rfl) (One.up i w) (H1.grow (below_drawn1 _)) (by simp only [List.mem_cons, List.not_mem_nil, or_false]; rintro k hk; rcases hk with rfl | rfl | rfl | rfl | rfl | rfl <;> trivial) ?_
  refine ⟨fun w1 hC hF => ?_, ?_⟩
  · go_simp
    first | exact ⟨Below.refl _ _, rfl⟩ | exact Below.refl _ _
  simp only [Act.put, List.setIfInBounds_toArray, List.set_cons_succ, List.set_cons_zero]
  refine ⟨fun w1 hC hF => ?_, ?_⟩
  · have gg := hC.at 3 (vI i.rn) rfl
    go_simp
    first | exact ⟨Below.refl _ _, rfl⟩ | exact Below.refl _ _
  simp only [Act.put, List.setIfInBounds_toArray, List.set_cons_succ, List.set_cons_zero]
  refine ⟨fun w1 hC _ => rel_load_row 23 _ rfl w.heap.size rfl 23 i.cells (0, 0) _ hC.box Tryz.underlying23 rfl (by kernel_rfl), ?_⟩
  simp only [Act.put, List.setIfInBounds_toArray, List.set_cons_succ, List.set_cons_zero]
  refine ⟨fun w1 hC hF => ?_, ?_⟩
  · go_simp
    refine (rspN_c i w1).mono ?_
    rintro e w4 ⟨rfl, hb⟩
    first | exact ⟨rfl, hb⟩ | exact ⟨_, rfl, hb, rfl⟩
  simp only [Act.put, List.setIfInBounds_toArray, List.set_cons_succ, List.set_cons_zero]
  refine ⟨fun w1 hC hF => ?_, ?_⟩
  · go_simp
    refine (rname_c i.rn (spN i) hr.n0 hr.n1 w1).mono ?_
    rintro e w4 ⟨rfl, hb⟩
    first | exact ⟨rfl, hb⟩ | exact ⟨_, rfl, hb, rfl⟩
  simp only [Act.put, List.setIfInBounds_toArray, List.set_cons_succ, List.set_cons_zero]
  refine ⟨fun w1 hC hF => ?_, ?_⟩
  · go_simp
    first | exact ⟨Below.refl _ _, rfl⟩ | exact Below.refl _ _
  simp only [Act.put, List.setIfInBounds_toArray, List.set_cons_succ, List.set_cons_zero]
  clear H1
  intro w1 H1 hF
  clear hF
  refine then_normal ?_
  go_upto_region 11 with (first | ((with_reducible refine wpList_load_cell rfl 3 _ rfl _ _ rfl _ (H1.at _ _ rfl) (agg3 _) ?_); simp only [Act.put, List.setIfInBounds_toArray, List.set_cons_succ, List.set_cons_zero]) | (go_at_call 29; refine (rname_c _ _ (by omega) (by omega) _).mono ?_; rintro e w2 ⟨rfl, hb2⟩; replace H1 := H1.grow hb2; clear hb2; dsimp only) | (go_at_call 32; refine (digits_c _ (by omega) (by omega) _).mono ?_; rintro e w2 ⟨rfl, hb2⟩; replace H1 := H1.grow hb2; clear hb2; dsimp only) | ((with_reducible refine wpList_cat rfl _ _ rfl _ _ rfl rfl ?_ ?_); (focus (simp only [List.length_append, List.length_cons, List.length_nil]; omega)); simp only [Act.put, List.setIfInBounds_toArray, List.set_cons_succ, List.set_cons_zero]) | ((with_reducible refine wpList_cut rfl _ _ rfl i.shift s0 s3 rfl rfl ?_); simp only [Act.put, List.setIfInBounds_toArray, List.set_cons_succ, List.set_cons_zero]))
  have hD : ∃ D, rdT i = D := ⟨_, rfl⟩
  have hN : ∃ N, rnT i = N := ⟨_, rfl⟩
  have hM : ∃ M, regT i.rm false = M := ⟨_, rfl⟩
  have hI : ∃ IM, [35] ++ Lib.itoa i.imm = IM := ⟨_, rfl⟩
  have hA : ∃ AM, [35] ++ Lib.itoa i.amount = AM := ⟨_, rfl⟩
  obtain ⟨D, hD⟩ := hD
  obtain ⟨N, hN⟩ := hN
  obtain ⟨M, hM⟩ := hM
  obtain ⟨IM, hI⟩ := hI
  obtain ⟨AM, hA⟩ := hA
  have l1 : IM.length ≤ 22 := by rw [← hI]; simp only [List.length_append, List.length_cons, List.length_nil]; omega
  have l2 : AM.length ≤ 22 := by rw [← hA]; simp only [List.length_append, List.length_cons, List.length_nil]; omega
  rw [hD] at ld ⊢
  rw [hN] at ln ⊢
  rw [hM] at lm ⊢
  rw [hI, hA]
  replace hD := show Hid _ from hD
  replace hN := show Hid _ from hN
  replace hM := show Hid _ from hM
  replace hI := show Hid _ from hI
  replace hA := show Hid _ from hA
  clear li lk
  rcases hg with h | h | h | h
  all_goals
    have z0 := H1.at 0 (vI i.op) rfl
    rw [h] at z0
    go_upto_region 12 with fail
    clear z0
    go_upto_region 73 with (first | ((with_reducible refine wpList_load_cell rfl 3 _ rfl _ _ rfl _ (H1.at _ _ rfl) (agg3 _) ?_); simp only [Act.put, List.setIfInBounds_toArray, List.set_cons_succ, List.set_cons_zero]) | (go_at_call 29; refine (rname_c _ _ (by omega) (by omega) _).mono ?_; rintro e w2 ⟨rfl, hb2⟩; replace H1 := H1.grow hb2; clear hb2; dsimp only) | (go_at_call 32; refine (digits_c _ (by omega) (by omega) _).mono ?_; rintro e w2 ⟨rfl, hb2⟩; replace H1 := H1.grow hb2; clear hb2; dsimp only) | (go_at_call 34; refine (rcond_c _ (by omega) (by omega) _).mono ?_; rintro e w2 ⟨rfl, rfl⟩; dsimp only) | ((with_reducible refine wpList_cat rfl _ _ rfl _ _ rfl rfl ?_ ?_); (focus (simp only [List.length_append, List.length_cons, List.length_nil]; omega)); simp only [Act.put, List.setIfInBounds_toArray, List.set_cons_succ, List.set_cons_zero]))
    have hn : (docP i).length = 0 := by unfold docP; rw [h]; rfl
    have R : RowT w.heap.size (docP i) (.slice none 0 0) w2 := by
      rw [show docP i = [] from by unfold docP; rw [h]; rfl]
      exact World.ownsRow_nil _ _ _ _
    have hLl := hL0.out
    clear hL0
    generalize docP i = L at R hT2 hLl hn
    replace h := show Hid _ from h
    go_upto_region 74 with (first | (refine wpList_load_if rfl 23 _ rfl w.heap.size rfl 23 _ (0, 0) _ H1.box Tryz.underlying23 rfl (by kernel_rfl) ?_; simp only [Act.put, List.setIfInBounds_toArray, List.set_cons_succ, List.set_cons_zero]) | (go_at_call 35; refine (rword_c i hR _).mono ?_; rintro e w3 ⟨rfl, hb2⟩; replace H1 := H1.grow hb2; replace R := own_up R hb2; clear hb2; dsimp only))
    have RB : Hid (RowT w.heap.size L (.slice none 0 0) w3 ∧ Below w.heap.size w w3) := ⟨R, H1.below⟩
    clear R H1
    go_wp2
    go_loopw [14, 15] (fun s14 s15 wr => ∃ k : Nat, k ≤ L.length ∧ s15 = .int .i64 k ∧ s14 = strV (accT (wordV i) L k) ∧ Hid (RowT w.heap.size L (.slice none 0 0) wr ∧ Below w.heap.size w wr)) (fun s14 s15 _ => L.length - (intOf s15).toNat)
    case atStart => exact ⟨0, Nat.zero_le _, rfl, rfl, RB⟩
    case round =>
      clear RB
      obtain ⟨k, hk, rfl, rfl, RB⟩ := hrel
      by_cases hin : k < L.length
      · omega
      · obtain rfl : k = L.length := by omega
        go_wp2
        go_ret2
        exact ⟨by rw [← hT2.out]; rfl, RB.out.2⟩
end Go.Proofs.YtjmdgfimmjodjaaGreatDoor
