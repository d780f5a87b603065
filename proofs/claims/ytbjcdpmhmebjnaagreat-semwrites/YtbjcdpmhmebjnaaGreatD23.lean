/- What an instruction does not read does not matter: what it wants, and what it does. -/
import Derived.Test.YtbjcdpmhmebjnaaGreatD22
import Derived.Test.YtbjcdpmhmebjnaaGreatD03
import Derived.Laws.OwnMore
namespace Go.Proofs.YtbjcdpmhmebjnaaGreat
open Go.RowKit
set_option linter.unusedVariables false

section
variable {c : Cor} {r : Nat} {hr : r < 31} {o : Int}
/-- What is known of an instruction's registers and of one that it does not read. -/
structure NoRead (i : Ins) (r : Nat) : Prop where
  d0 : 0 ≤ i.rd ∧ i.rd ≤ 31
  m0 : 0 ≤ i.rm ∧ i.rm ≤ 31
  rn : (1 ≤ i.op ∧ i.op ≤ 10 ∧ i.op ≠ 5) ∨ i.op = 16 ∨ (17 ≤ i.op ∧ i.op ≤ 24) → i.rn ≠ (r : Int)
  rm : i.op = 2 ∨ i.op = 3 ∨ i.op = 7 ∨ i.op = 8 ∨ i.op = 9 ∨ i.op = 10 ∨ i.op = 19 ∨ i.op = 20 → i.rm ≠ (r : Int)
  ra : i.op = 8 → i.ra ≠ (r : Int)
  rd : i.op = 18 ∨ i.op = 20 ∨ i.op = 22 ∨ i.op = 24 ∨ i.op = 14 ∨ i.op = 15 ∨ i.op = 28 ∨ i.op = 30 ∨ i.op = 32 ∨ (i.op = 5 ∧ i.sub = 3) → i.rd ≠ (r : Int)
theorem adr_same {i : Ins} (h1 : i.rn ≠ (r : Int)) (h2 : i.op = 19 ∨ i.op = 20 → i.rm ≠ (r : Int)) : adrV (putX c r hr o) i = adrV c i := by
  unfold adrV
  split
  · rename_i e
    rw [spX_ne h1, xV_ne (h2 e)]
  · rw [spX_ne h1]
theorem acc_same {i : Ins} (k : Wnt) (h1 : i.rn ≠ (r : Int)) (h2 : i.op = 19 ∨ i.op = 20 → i.rm ≠ (r : Int)) : accV (putX c r hr o) i k = accV c i k := by
  unfold accV
  rw [adr_same h1 h2]
  rfl
theorem want_same {i : Ins} (R : NoRead i r) : wantV (putX c r hr o) i = wantV c i := by
  have hx : i.op = 18 ∨ i.op = 20 ∨ i.op = 22 ∨ i.op = 24 ∨ i.op = 28 ∨ i.op = 30 ∨ i.op = 32 → xV (putX c r hr o) i.rd = xV c i.rd := fun e => xV_ne (R.rd (by omega))
  have ha : ∀ k, 17 ≤ i.op ∧ i.op ≤ 24 → accV (putX c r hr o) i k = accV c i k := fun k e => acc_same k (R.rn (by omega)) (fun e => R.rm (by omega))
  have hw : wishV (putX c r hr o) i = wishV c i := by
    unfold wishV
    by_cases h0 : i.op = 0
    · rw [if_pos h0, if_pos h0]
    rw [if_neg h0, if_neg h0]
    by_cases h1 : i.op = 17 ∨ i.op = 19
    · rw [if_pos h1, if_pos h1]; exact ha _ (by omega)
    rw [if_neg h1, if_neg h1]
    by_cases h2 : i.op = 21
    · rw [if_pos h2, if_pos h2]; exact ha _ (by omega)
    rw [if_neg h2, if_neg h2]
    by_cases h3 : i.op = 23
    · rw [if_pos h3, if_pos h3]; exact ha _ (by omega)
    rw [if_neg h3, if_neg h3]
    by_cases h4 : i.op = 18 ∨ i.op = 20
    · rw [if_pos h4, if_pos h4]; rw [hx (by omega)]; exact ha _ (by omega)
    rw [if_neg h4, if_neg h4]
    by_cases h5 : i.op = 22
    · rw [if_pos h5, if_pos h5]; rw [hx (by omega)]; exact ha _ (by omega)
    rw [if_neg h5, if_neg h5]
    by_cases h6 : i.op = 24
    · rw [if_pos h6, if_pos h6]; rw [hx (by omega)]; exact ha _ (by omega)
    rw [if_neg h6, if_neg h6]
    by_cases h7 : i.op = 25
    · rw [if_pos h7, if_pos h7]
    rw [if_neg h7, if_neg h7]
    by_cases h8 : i.op = 26
    · rw [if_pos h8, if_pos h8]
    rw [if_neg h8, if_neg h8]
    by_cases h9 : i.op = 27
    · rw [if_pos h9, if_pos h9]
    rw [if_neg h9, if_neg h9]
    by_cases h10 : i.op = 28
    · rw [if_pos h10, if_pos h10]; unfold lineV; rw [hx (by omega)]
    rw [if_neg h10, if_neg h10]
    by_cases h11 : i.op = 29
    · rw [if_pos h11, if_pos h11]
    rw [if_neg h11, if_neg h11]
    by_cases h12 : i.op = 30
    · rw [if_pos h12, if_pos h12]; unfold lineV; rw [hx (by omega)]
    rw [if_neg h12, if_neg h12]
    by_cases h13 : i.op = 31
    · rw [if_pos h13, if_pos h13]
    rw [if_neg h13, if_neg h13]
    by_cases h14 : i.op = 32
    · rw [if_pos h14, if_pos h14]; rw [hx (by omega)]
    rw [if_neg h14, if_neg h14]
    by_cases h15 : i.op = 34
    · rw [if_pos h15, if_pos h15]
    rw [if_neg h15, if_neg h15]
    by_cases h16 : i.op = 35
    · rw [if_pos h16, if_pos h16]
    rw [if_neg h16, if_neg h16]
    by_cases h17 : i.op = 37
    · rw [if_pos h17, if_pos h17]; rfl
    rw [if_neg h17, if_neg h17]
  unfold wantV
  by_cases hb : barB c i = true
  · have hb2 : barB (putX c r hr o) i = true := hb
    rw [if_pos hb, if_pos hb2]
  · have hb2 : ¬ barB (putX c r hr o) i = true := hb
    rw [if_neg hb, if_neg hb2, hw]
/-- The registers that an instruction writes, of 0 to 30. -/
def wrB (i : Ins) (r : Nat) : Bool :=
  if (1 ≤ i.op ∧ i.op ≤ 11) ∨ i.op = 17 ∨ i.op = 19 ∨ i.op = 21 ∨ i.op = 23 ∨ i.op = 31 then i.rd == (r : Int)
  else if i.op = 24 then i.rm == (r : Int)
  else if i.op = 12 then i.link && (30 == (r : Int))
  else if i.op = 16 then (i.sub == 1) && (30 == (r : Int))
  else false
theorem do_same {i : Ins} (k : Gt) (R : NoRead i r) (hel : c.el = 0 ∨ c.el = 1) (hg : rightC c = true) (hs : i.op = 32 → outB i.sys = false → setB i.sys = true) :
    doV i (putX c r hr o) k = bif wrB i r then doV i c k else putX (doV i c k) r hr o := by
  have X : ∀ s : Int, s ≠ (r : Int) → xV (putX c r hr o) s = xV c s := fun s h => xV_ne h
  by_cases h1 : i.op = 1
  · have e : wrB i r = (i.rd == (r : Int)) := by simp [wrB, h1]
    have n := R.rn (by omega)
    simp only [doV, h1, if_true, e]
    rw [spX_ne n]
    unfold addD
    rw [wr_fl]
    exact wr_imm i (by rw [el_fl]; exact hel) _ R.d0.1 R.d0.2
  by_cases h2 : i.op = 2
  · have e : wrB i r = (i.rd == (r : Int)) := by simp [wrB, h2]
    have n := R.rn (by omega)
    have m := R.rm (by omega)
    simp only [doV, h2, if_true, e, Int.reduceEq, if_false]
    unfold shNV addD
    rw [X _ n, X _ m, wr_fl]
    exact wr _ _ R.d0.1 R.d0.2
  by_cases h3 : i.op = 3
  · have e : wrB i r = (i.rd == (r : Int)) := by simp [wrB, h3]
    have n := R.rn (by omega)
    have m := R.rm (by omega)
    simp only [doV, h3, if_true, e, Int.reduceEq, if_false]
    unfold shNV
    rw [X _ n, X _ m, wr_fl]
    exact wr _ _ R.d0.1 R.d0.2
  by_cases h4 : i.op = 4
  · have e : wrB i r = (i.rd == (r : Int)) := by simp [wrB, h4]
    have n := R.rn (by omega)
    simp only [doV, h4, if_true, e, Int.reduceEq, if_false]
    rw [X _ n, wr_fl]
    exact wr_imm i (by rw [el_fl]; exact hel) _ R.d0.1 R.d0.2
  by_cases h5 : i.op = 5
  · have e : wrB i r = (i.rd == (r : Int)) := by simp [wrB, h5]
    simp only [doV, h5, if_true, e, Int.reduceEq, if_false]
    have ev : movNV i (putX c r hr o) = movNV i c := by
      unfold movNV
      cases e0 : i.sub == 0
      · cases e3 : i.sub == 3
        · rfl
        · rw [X _ (R.rd (by simp only [beq_iff_eq] at e3; omega))]
      · rfl
    rw [ev]
    exact wr _ _ R.d0.1 R.d0.2
  by_cases h6 : i.op = 6
  · have e : wrB i r = (i.rd == (r : Int)) := by simp [wrB, h6]
    have n := R.rn (by omega)
    simp only [doV, h6, if_true, e, Int.reduceEq, if_false]
    rw [X _ n]
    exact wr _ _ R.d0.1 R.d0.2
  by_cases h7 : i.op = 7
  · have e : wrB i r = (i.rd == (r : Int)) := by simp [wrB, h7]
    have n := R.rn (by omega)
    have m := R.rm (by omega)
    simp only [doV, h7, if_true, e, Int.reduceEq, if_false]
    rw [X _ n, X _ m]
    exact wr _ _ R.d0.1 R.d0.2
  by_cases h8 : i.op = 8
  · have e : wrB i r = (i.rd == (r : Int)) := by simp [wrB, h8]
    have n := R.rn (by omega)
    have m := R.rm (by omega)
    have a := R.ra h8
    simp only [doV, h8, if_true, e, Int.reduceEq, if_false]
    rw [X _ n, X _ m, X _ a]
    exact wr _ _ R.d0.1 R.d0.2
  by_cases h9 : i.op = 9
  · have e : wrB i r = (i.rd == (r : Int)) := by simp [wrB, h9]
    have n := R.rn (by omega)
    have m := R.rm (by omega)
    simp only [doV, h9, if_true, e, Int.reduceEq, if_false]
    rw [X _ n, X _ m]
    exact wr _ _ R.d0.1 R.d0.2
  by_cases h10 : i.op = 10
  · have e : wrB i r = (i.rd == (r : Int)) := by simp [wrB, h10]
    have n := R.rn (by omega)
    have m := R.rm (by omega)
    simp only [doV, h10, if_true, e, Int.reduceEq, if_false]
    rw [X _ n, X _ m, holds_same]
    exact wr _ _ R.d0.1 R.d0.2
  by_cases h11 : i.op = 11
  · have e : wrB i r = (i.rd == (r : Int)) := by simp [wrB, h11]
    simp only [doV, h11, if_true, e, Int.reduceEq, if_false]
    exact wr _ _ R.d0.1 R.d0.2
  by_cases h12 : i.op = 12
  · have e : wrB i r = (i.link && (30 == (r : Int))) := by simp [wrB, h12]
    simp only [doV, h12, if_true, e, Int.reduceEq, if_false]
    exact wr_link _ _
  by_cases h13 : i.op = 13
  · have e : wrB i r = false := by simp [wrB, h13]
    simp only [doV, h13, if_true, e, Int.reduceEq, if_false, cond_false]
    exact wr_jump _ _
  by_cases h14 : i.op = 14
  · have e : wrB i r = false := by simp [wrB, h14]
    have d := R.rd (by omega)
    simp only [doV, h14, if_true, e, Int.reduceEq, if_false, cond_false]
    rw [X _ d]
    exact wr_jump _ _
  by_cases h15 : i.op = 15
  · have e : wrB i r = false := by simp [wrB, h15]
    have d := R.rd (by omega)
    simp only [doV, h15, if_true, e, Int.reduceEq, if_false, cond_false]
    rw [X _ d]
    exact wr_jump _ _
  by_cases h16 : i.op = 16
  · have e : wrB i r = ((i.sub == 1) && (30 == (r : Int))) := by simp [wrB, h16]
    have n := R.rn (by omega)
    simp only [doV, h16, if_true, e, Int.reduceEq, if_false]
    rw [X _ n]
    exact wr_link _ _
  by_cases h17 : i.op = 17 ∨ i.op = 19 ∨ i.op = 21 ∨ i.op = 23
  · have e : wrB i r = (i.rd == (r : Int)) := by rw [wrB, if_pos (by omega)]
    have ed : ∀ c, doV i c k = setXV c i.rd k.value := fun c => by simp only [doV, h1, h2, h3, h4, h5, h6, h7, h8, h9, h10, h11, h12, h13, h14, h15, h16, h17, if_true, if_false]
    rw [ed, ed, e]
    exact wr _ _ R.d0.1 R.d0.2
  by_cases h24 : i.op = 24
  · have e : wrB i r = (i.rm == (r : Int)) := by simp [wrB, h24]
    simp only [doV, h24, if_true, e, Int.reduceEq, if_false, or_self]
    exact wr _ _ R.m0.1 R.m0.2
  by_cases h31 : i.op = 31
  · have e : wrB i r = (i.rd == (r : Int)) := by simp [wrB, h31]
    simp only [doV, h31, if_true, e, Int.reduceEq, if_false, or_self]
    exact wr _ _ R.d0.1 R.d0.2
  have e : wrB i r = false := by
    unfold wrB
    by_cases hh : (1 ≤ i.op ∧ i.op ≤ 11)
    · omega
    · rw [if_neg (by omega), if_neg h24, if_neg h12, if_neg h16]
  have ed : ∀ c, doV i c k = if i.op = 32 then (bif outB i.sys then c else setV c i.sys (xV c i.rd)) else if i.op = 33 then (bif bits .and .i64 i.imm 2 != 0 then { c with mask := i.sub == 0 } else c) else if i.op = 36 then backV c else if i.op = 37 then hintC i c else c := fun c => by
    simp only [doV, h1, h2, h3, h4, h5, h6, h7, h8, h9, h10, h11, h12, h13, h14, h15, h16, h17, h24, h31, if_false]
  rw [ed, ed, e, cond_false]
  split
  · rename_i h32
    rw [X _ (R.rd (by omega))]
    cases ho : outB i.sys
    · exact wr_set _ _ (hs h32 ho)
    · rfl
  split
  · cases (bits .and .i64 i.imm 2 != 0) <;> rfl
  split
  · exact wr_back hg
  split
  · exact wr_hint i
  rfl
end
end Go.Proofs.YtbjcdpmhmebjnaaGreat
/- Whether a number is in a list that a call owns; what the lists of registers that are read and written tell: contracts and plain facts. -/
namespace Go.Proofs.YtbjcdpmhmebjnaaGreat
open Go.RowKit Go.Rel
set_option linter.unusedVariables false

def anyF (f : Nat → Int) (n : Nat) (m : Int) : Bool := (List.range n).any fun j => f j == m
theorem anyF_yes {f : Nat → Int} {n k : Nat} {m : Int} (hk : k < n) (h : (f k == m) = true) : anyF f n m = true := List.any_eq_true.2 ⟨k, List.mem_range.2 hk, h⟩
theorem anyF_no {f : Nat → Int} {n : Nat} {m : Int} (h : ∀ j, j < n → (f j == m) = false) : anyF f n m = false := List.any_eq_false.2 fun j hj => by rw [h j (List.mem_range.1 hj)]; decide
set_option maxHeartbeats 1000000 in
theorem in_some (g cap n : Nat) (f : Nat → Int) (m : Int) (hn : n ≤ 32) (w : World) (d : ∀ j, j < n → w.cell? ⟨g, j, none⟩ = some (.int .i64 (f j))) :
    Calls Tryz.prog 17 #[.slice (some ⟨g, 0, none⟩) n cap, .int .i64 m] w fun e w' => e = .returned (.bool (anyF f n m)) ∧ w' = w := by
  replace d : Hid (∀ j, j < n → w.cell? ⟨g, j, none⟩ = some (.int .i64 (f j))) := d
  go_enter Tryz.func17, Tryz.ntmps17
  go_wp2
  go_loop [5] (fun z => ∃ k : Nat, k ≤ n ∧ Hid (∀ j, j < k → (f j == m) = false) ∧ z = .int .i64 k) (fun z => n - (intOf z).toNat)
  case atStart => exact ⟨0, Nat.zero_le _, fun j h => absurd h (Nat.not_lt_zero j), rfl⟩
  case round =>
    obtain ⟨k, hk, hno, rfl⟩ := hrel
    by_cases hlt : (k : Int) < n
    · have e1 := d.out k (by omega)
      cases hb : (f k == m)
      · have hno2 : Hid (∀ j, j < k + 1 → (f j == m) = false) := fun j hj => (Nat.lt_succ_iff_lt_or_eq.1 hj).elim (hno.out j) (fun e => by subst e; exact hb)
        go_wp2
        go_round
        case rel => exact ⟨k + 1, by omega, hno2, by go_num⟩
        case measure => simp [intOf]; omega
      · have hy : Hid (anyF f n m = true) := anyF_yes (by omega) hb
        go_wp2
        go_ret
        exact ⟨ret_bool hy.out.symm, rfl⟩
    · have hy : Hid (anyF f n m = false) := anyF_no fun j hj => hno.out j (by omega)
      go_wp2
      go_ret
      exact ⟨ret_bool hy.out.symm, rfl⟩
set_option maxHeartbeats 1000000 in
theorem in_none (a : Option Addr) (cap : Nat) (m : Int) (w : World) : Calls Tryz.prog 17 #[.slice a 0 cap, .int .i64 m] w fun e w' => e = .returned (.bool false) ∧ w' = w := by
  go_enter Tryz.func17, Tryz.ntmps17
  go_wp2
  go_loop [5] (fun z => z = .int .i64 0) (fun z => 0)
  case atStart => rfl
  case round =>
    obtain rfl := hrel
    go_wp2
    go_ret
    exact ⟨rfl, rfl⟩
theorem list_mem (S r : Nat) : anyF (fun j => (((listL S 32).getD j 0 : Nat) : Int)) (listL S 32).length (r : Int) = (decide (r < 32) && S.testBit r) := by
  apply Bool.eq_iff_iff.2
  simp only [anyF, List.any_eq_true, List.mem_range, beq_iff_eq, Bool.and_eq_true, decide_eq_true_eq]
  constructor
  · rintro ⟨j, hj, e⟩
    have e2 : (listL S 32)[j] = r := by
      simp only [List.getD_eq_getElem?_getD, List.getElem?_eq_getElem hj, Option.getD_some] at e
      omega
    have : r ∈ listL S 32 := e2 ▸ List.getElem_mem hj
    simpa [listL] using this
  · intro h
    have : r ∈ listL S 32 := by simpa [listL] using h
    obtain ⟨j, hj, e⟩ := List.mem_iff_getElem.1 this
    exact ⟨j, hj, by simp only [List.getD_eq_getElem?_getD, List.getElem?_eq_getElem hj, Option.getD_some, e]⟩
theorem in_row {w : World} {b S : Nat} {v : Value} (h : w.ownsRow b 3 1 v (listL S 32).length (listV S 32)) (r : Nat) (hr : r < 32) :
    Calls Tryz.prog 17 #[v, .int .i64 (r : Int)] w fun e w' => e = .returned (.bool (S.testBit r)) ∧ w' = w := by
  have hn := listL_le S 32
  have hm := list_mem S r
  rw [show (decide (r < 32) && S.testBit r) = S.testBit r by simp [hr]] at hm
  by_cases h0 : (listL S 32).length = 0
  · have e : S.testBit r = false := by rw [← hm, h0]; rfl
    rw [e]
    rcases h.2 with ⟨h1, -⟩ | ⟨g, cap, cur, h1, -⟩
    · rw [h1]; exact in_none _ _ _ w
    · rw [h1, h0]; exact in_none _ _ _ w
  · have q := h
    rcases h.2 with ⟨-, h1⟩ | ⟨g, cap, cur, rfl, -⟩
    · exact absurd h1 h0
    rw [← hm]
    refine in_some g cap _ _ _ hn w ?_
    intro j hj
    rw [q.cellAt j (by omega)]
    simp [listV, List.getElem?_eq_getElem hj, List.getD_eq_getElem?_getD]
/-! The bits of the sets. -/
theorem bit_zf_fin : ∀ k : Fin 32, ∀ r : Fin 31, (zeroF (k.val : Int)).toNat.testBit r.val = decide (k.val = r.val) := by decide +kernel
theorem bit_sf_fin : ∀ k : Fin 32, ∀ r : Fin 31, (stackF (k.val : Int)).toNat.testBit r.val = decide (k.val = r.val) := by decide +kernel
theorem bit_zf {n : Int} (h0 : 0 ≤ n) (h1 : n ≤ 31) {r : Nat} (hr : r < 31) : (zeroF n).toNat.testBit r = (n == (r : Int)) := by
  have := bit_zf_fin ⟨n.toNat, by omega⟩ ⟨r, hr⟩
  rw [show ((⟨n.toNat, by omega⟩ : Fin 32).val : Int) = n by simp; omega] at this
  rw [this]
  apply Bool.eq_iff_iff.2
  simp only [decide_eq_true_eq, beq_iff_eq]
  omega
theorem bit_sf {n : Int} (h0 : 0 ≤ n) (h1 : n ≤ 31) {r : Nat} (hr : r < 31) : (stackF n).toNat.testBit r = (n == (r : Int)) := by
  have := bit_sf_fin ⟨n.toNat, by omega⟩ ⟨r, hr⟩
  rw [show ((⟨n.toNat, by omega⟩ : Fin 32).val : Int) = n by simp; omega] at this
  rw [this]
  apply Bool.eq_iff_iff.2
  simp only [decide_eq_true_eq, beq_iff_eq]
  omega
theorem bit_orS {a b : Int} (ha : R32 a) (hb : R32 b) (r : Nat) : (orS a b).toNat.testBit r = (a.toNat.testBit r || b.toNat.testBit r) := by
  obtain ⟨A, rfl⟩ := Int.eq_ofNat_of_zero_le ha.1
  obtain ⟨B, rfl⟩ := Int.eq_ofNat_of_zero_le hb.1
  have h1 : A < 4294967296 := by have := ha.2; omega
  have h2 : B < 4294967296 := by have := hb.2; omega
  have e : orS (A : Int) (B : Int) = ((A ||| B : Nat) : Int) := by
    have hx : A ||| B < 2 ^ 32 := Nat.or_lt_two_pow h1 h2
    show IntKind.u32.wrap ((BitVec.ofInt 32 (A : Int) ||| BitVec.ofInt 32 (B : Int)).toNat : Int) = _
    have f : ∀ q : Nat, q < 4294967296 → (BitVec.ofInt 32 (q : Int)).toNat = q := fun q hq => by
      rw [BitVec.ofInt_natCast, BitVec.toNat_ofNat]; exact Nat.mod_eq_of_lt hq
    rw [BitVec.toNat_or, f A h1, f B h2, IntKind.wrap_u32]
    omega
  rw [e]
  simp [Nat.testBit_or]
theorem bit_n {i : Ins} (h : InR i) {r : Nat} (hr : r < 31) : (setNV i).toNat.testBit r = (i.rn == (r : Int)) := by
  unfold setNV
  cases spN i
  · exact bit_zf h.n0 h.n1 hr
  · exact bit_sf h.n0 h.n1 hr
theorem bit_d {i : Ins} (h : InR i) {r : Nat} (hr : r < 31) : (setDV i).toNat.testBit r = (i.rd == (r : Int)) := by
  unfold setDV
  cases spD i
  · exact bit_zf h.d0 h.d1 hr
  · exact bit_sf h.d0 h.d1 hr
theorem no_read {i : Ins} (h : InR i) (ho : 1 ≤ i.op ∧ i.op ≤ 37) {r : Nat} (hr : r < 31) (hn : (readsV i).toNat.testBit r = false) : NoRead i r := by
  have z0 : R32 0 := r32_zero
  have zm := r32_zf h.m0 h.m1
  have za := r32_zf h.a0 h.a1
  have zd := r32_zf h.d0 h.d1
  have zn := r32_n h
  have bm := bit_zf h.m0 h.m1 hr
  have ba := bit_zf h.a0 h.a1 hr
  have bd := bit_zf h.d0 h.d1 hr
  have bn := bit_n h hr
  have b0 : (0 : Int).toNat.testBit r = false := by simp
  have o1 : ∀ x, R32 x → (orS 0 x).toNat.testBit r = x.toNat.testBit r := fun x hx => by rw [bit_orS z0 hx, b0, Bool.false_or]
  have o2 : ∀ x y, R32 x → R32 y → (orS (orS 0 x) y).toNat.testBit r = (x.toNat.testBit r || y.toNat.testBit r) := fun x y hx hy => by rw [bit_orS (r32_or z0 hx) hy, o1 x hx]
  have o3 : ∀ x y z, R32 x → R32 y → R32 z → (orS (orS (orS 0 x) y) z).toNat.testBit r = (x.toNat.testBit r || y.toNat.testBit r || z.toNat.testBit r) := fun x y z hx hy hz => by rw [bit_orS (r32_or (r32_or z0 hx) hy) hz, o2 x y hx hy]
  refine ⟨⟨h.d0, h.d1⟩, ⟨h.m0, h.m1⟩, ?_, ?_, ?_, ?_⟩
  all_goals
    intro hh e
    rcases (by omega : i.op = 1 ∨ i.op = 2 ∨ i.op = 3 ∨ i.op = 4 ∨ i.op = 5 ∨ i.op = 6 ∨ i.op = 7 ∨ i.op = 8 ∨ i.op = 9 ∨ i.op = 10 ∨ i.op = 14 ∨ i.op = 15 ∨ i.op = 16 ∨ i.op = 17 ∨ i.op = 18 ∨ i.op = 19 ∨ i.op = 20 ∨ i.op = 21 ∨ i.op = 22 ∨ i.op = 23 ∨ i.op = 24 ∨ i.op = 28 ∨ i.op = 30 ∨ i.op = 32) with q | q | q | q | q | q | q | q | q | q | q | q | q | q | q | q | q | q | q | q | q | q | q | q
  all_goals first
    | omega
    | (simp only [readsV, q, Int.reduceBEq, Bool.or_false, Bool.or_true, Bool.or_self, cond_true, cond_false] at hn; first | (rw [o3 _ _ _ za zm zn, ba, bm, bn, e] at hn; simp at hn; done) | (rw [o3 _ _ _ zm zn zd, bm, bn, bd, e] at hn; simp at hn; done) | (rw [o2 _ _ zm zn, bm, bn, e] at hn; simp at hn; done) | (rw [o2 _ _ zn zd, bn, bd, e] at hn; simp at hn; done) | (rw [o1 _ zn, bn, e] at hn; simp at hn; done) | (rw [o1 _ zd, bd, e] at hn; simp at hn; done) | (rw [show (i.sub == 3) = true by simp; omega, cond_true, o1 _ zd, bd, e] at hn; simp at hn; done))
theorem wr_bits {i : Ins} (h : InR i) (ho : 1 ≤ i.op ∧ i.op ≤ 37) {r : Nat} (hr : r < 31) : (writesV i).toNat.testBit r = wrB i r := by
  have bm := bit_zf h.m0 h.m1 hr
  have bd := bit_d h hr
  have b30 : (zeroF 30).toNat.testBit r = (30 == (r : Int)) := bit_zf (by decide) (by decide) hr
  have b0 : (0 : Int).toNat.testBit r = false := by simp
  unfold writesV wrB
  by_cases h1 : i.op = 17 ∨ i.op = 19 ∨ i.op = 21 ∨ i.op = 23 ∨ i.op = 31
  · rw [if_pos (by omega), show (i.op == 17 || i.op == 19 || i.op == 21 || i.op == 23 || i.op == 31) = true by simp only [Bool.or_eq_true, beq_iff_eq]; omega, cond_true, bd]
  rw [show (i.op == 17 || i.op == 19 || i.op == 21 || i.op == 23 || i.op == 31) = false by simp only [Bool.or_eq_false_iff, beq_eq_false_iff_ne]; omega, cond_false]
  by_cases h24 : i.op = 24
  · rw [if_neg (by omega), if_pos h24, show (i.op == 24) = true by simpa using h24, cond_true, bm]
  rw [show (i.op == 24) = false by simpa using h24, cond_false]
  by_cases h12 : i.op = 12
  · rw [if_neg (by omega), if_neg h24, if_pos h12, show (i.op == 12) = true by simpa using h12, cond_true]
    cases i.link
    · exact b0
    · exact b30
  rw [show (i.op == 12) = false by simpa using h12, cond_false]
  by_cases h16 : i.op = 16
  · rw [if_neg (by omega), if_neg h24, if_neg h12, if_pos h16, show (i.op == 16) = true by simpa using h16, cond_true]
    cases (i.sub == 1)
    · exact b0
    · exact b30
  rw [show (i.op == 16) = false by simpa using h16, cond_false]
  by_cases h11 : i.op ≤ 11
  · rw [if_pos (by omega), show decide (i.op ≤ 11) = true by simpa using h11, cond_true, bd]
  · rw [if_neg (by omega), if_neg h24, if_neg h12, if_neg h16, show decide (i.op ≤ 11) = false by simpa using h11, cond_false, b0]
end Go.Proofs.YtbjcdpmhmebjnaaGreat
