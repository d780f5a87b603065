/- The lists of registers that an instruction reads, reckons its address of and writes: they rise, each below 32; the address' are among those read; at most one is written. Plain. -/
import Derived.Test.YtmbefmmnkfoneaaDoorLists
namespace Go.Proofs.YtmbefmmnkfoneaaDoor
open Go.RowKit

theorem list_lt {s : Nat} {x : Nat} (h : x ∈ listL s 32) : x < 32 ∧ s.testBit x = true := by
  simp only [listL, List.mem_filter, List.mem_range] at h
  exact h
theorem list_mem {s x : Nat} (h0 : x < 32) (h1 : s.testBit x = true) : x ∈ listL s 32 := by
  simp only [listL, List.mem_filter, List.mem_range]
  exact ⟨h0, h1⟩
theorem list_rises (s : Nat) : (listL s 32).Pairwise (· < ·) := List.Pairwise.filter _ List.pairwise_lt_range
theorem list_rise {s j : Nat} (h : j + 1 < (listL s 32).length) : (listL s 32)[j] < (listL s 32)[j + 1] :=
  List.pairwise_iff_getElem.1 (list_rises s) j (j + 1) (by omega) h (by omega)
theorem list_small {s j : Nat} (h : j < (listL s 32).length) : (listL s 32)[j] < 32 := (list_lt (List.getElem_mem h)).1

def Sub (x y : Int) : Prop := ∀ k, x.toNat.testBit k = true → y.toNat.testBit k = true
theorem sub_refl (x : Int) : Sub x x := fun _ h => h
theorem or_bits {a b : Int} (ha : R32 a) (hb : R32 b) (k : Nat) : (orS a b).toNat.testBit k = (a.toNat.testBit k || b.toNat.testBit k) := by
  obtain ⟨a0, a1⟩ := ha
  obtain ⟨b0, b1⟩ := hb
  obtain ⟨x, rfl⟩ := Int.eq_ofNat_of_zero_le a0
  obtain ⟨y, rfl⟩ := Int.eq_ofNat_of_zero_le b0
  rw [orS, or32 x y (by omega) (by omega)]
  simp
theorem sub_or {a b : Int} (ha : R32 a) (hb : R32 b) : Sub a (orS a b) := fun k h => by rw [or_bits ha hb, h]; rfl

theorem address_sub {i : Ins} (h : InR i) : Sub (addressV i) (readsV i) := by
  have N := r32_n h
  have M := r32_zf h.m0 h.m1
  have D := r32_zf h.d0 h.d1
  unfold addressV readsV
  by_cases h19 : i.op = 19
  · simp only [h19]; exact sub_refl _
  by_cases h20 : i.op = 20
  · simp only [h20]; exact sub_or (r32_or (r32_or r32_zero M) N) D
  by_cases h17 : i.op = 17
  · simp only [h17]; exact sub_refl _
  by_cases h18 : i.op = 18
  · simp only [h18]; exact sub_or (r32_or r32_zero N) D
  by_cases h21 : i.op = 21
  · simp only [h21]; exact sub_refl _
  by_cases h22 : i.op = 22
  · simp only [h22]; exact sub_or (r32_or r32_zero N) D
  by_cases h23 : i.op = 23
  · simp only [h23]; exact sub_refl _
  by_cases h24 : i.op = 24
  · simp only [h24]; exact sub_or (r32_or r32_zero N) D
  by_cases h28 : i.op = 28
  · simp only [h28]; exact sub_refl _
  by_cases h30 : i.op = 30
  · simp only [h30]; exact sub_refl _
  · intro k hk
    exfalso
    simp only [beq_false_of_ne h19, beq_false_of_ne h20, beq_false_of_ne h17, beq_false_of_ne h18, beq_false_of_ne h21, beq_false_of_ne h22, beq_false_of_ne h23, beq_false_of_ne h24, beq_false_of_ne h28, beq_false_of_ne h30, Bool.or_false, cond_false] at hk
    simp at hk

def rL (i : Ins) : List Nat := listL (setOf i (readsV i)) 32
def aL (i : Ins) : List Nat := listL (setOf i (addressV i)) 32
def wL (i : Ins) : List Nat := listL (setOf i (writesV i)) 32
theorem a_in_r {i : Ins} {x : Nat} (h : x ∈ aL i) : x ∈ rL i := by
  obtain ⟨h0, h1⟩ := list_lt h
  refine list_mem h0 ?_
  unfold setOf at h1 ⊢
  cases hR : rightB i with
  | false => rw [hR] at h1; simp at h1
  | true =>
    rw [hR] at h1
    exact address_sub (inR_of hR) x h1
theorem list_nil {i : Ins} (h : rightB i = false) (v : Int) : listL (setOf i v) 32 = [] := by
  unfold setOf
  rw [h]
  show listL 0 32 = []
  decide
theorem one_fin : ∀ k : Fin 32, (listL (2 ^ k.val) 32).length ≤ 1 := by decide +kernel
theorem one_pow {n : Int} (h0 : 0 ≤ n) (h1 : n ≤ 31) : (listL (stackF n).toNat 32).length ≤ 1 := by
  have := one_fin ⟨n.toNat, by omega⟩
  have e : (stackF n).toNat = 2 ^ n.toNat := by
    unfold stackF
    have : (2 : Int) ^ n.toNat = ((2 ^ n.toNat : Nat) : Int) := by simp
    rw [this]; exact Int.toNat_natCast _
  rw [e]; exact this
theorem one_zero {n : Int} (h0 : 0 ≤ n) (h1 : n ≤ 31) : (listL (zeroF n).toNat 32).length ≤ 1 := by
  unfold zeroF
  split
  · decide
  · exact one_pow h0 h1
theorem one_bif {b : Bool} {x y : Int} (hx : (listL x.toNat 32).length ≤ 1) (hy : (listL y.toNat 32).length ≤ 1) : (listL (bif b then x else y).toNat 32).length ≤ 1 := by cases b <;> assumption
theorem one_none : (listL (0 : Int).toNat 32).length ≤ 1 := by decide
theorem w_one (i : Ins) : (wL i).length ≤ 1 := by
  cases hR : rightB i with
  | false => unfold wL; rw [list_nil hR]; decide
  | true =>
    have h := inR_of hR
    unfold wL setOf
    rw [hR]
    have D : (listL (setDV i).toNat 32).length ≤ 1 := one_bif (one_pow h.d0 h.d1) (one_zero h.d0 h.d1)
    exact one_bif D (one_bif (one_zero h.m0 h.m1) (one_bif (one_bif (one_zero (by decide) (by decide)) one_none) (one_bif (one_bif (one_zero (by decide) (by decide)) one_none) (one_bif D one_none))))
end Go.Proofs.YtmbefmmnkfoneaaDoor
