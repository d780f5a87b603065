/- Plain facts on which the laws of sums, products, quotients, comparisons and turns stand: no Go text is named here. -/
import Derived.Test.YtakmnbahogogiaaExs
namespace Go.Proofs.Ytakmnbahogogiaa
open Go.RowKit

theorem or_and (A : Nat) : ∀ B : Nat, (A ||| B) + (A &&& B) = A + B := by
  induction A using Nat.strongRecOn with
  | ind A ih =>
    intro B
    by_cases h : A = 0
    · subst h; simp
    · have i := ih (A / 2) (by omega) (B / 2)
      have h1 : (A ||| B) / 2 = A / 2 ||| B / 2 := Nat.or_div_two
      have h2 : (A &&& B) / 2 = A / 2 &&& B / 2 := Nat.and_div_two
      have h3 : (A ||| B) % 2 = A % 2 ||| B % 2 := by simpa using Nat.or_mod_two_pow (a := A) (b := B) (n := 1)
      have h4 : (A &&& B) % 2 = A % 2 &&& B % 2 := by simpa using Nat.and_mod_two_pow (a := A) (b := B) (n := 1)
      rw [← h1, ← h2] at i
      have h5 : (A % 2 ||| B % 2) + (A % 2 &&& B % 2) = A % 2 + B % 2 := by
        rcases (by omega : A % 2 = 0 ∨ A % 2 = 1) with e | e <;> rcases (by omega : B % 2 = 0 ∨ B % 2 = 1) with e' | e' <;> rw [e, e'] <;> rfl
      omega
theorem reckon_in {k a b : Int} (ha : U64 a) (hb : U64 b) : U64 (reckonV k a b) := by
  obtain ⟨A, rfl⟩ := Int.eq_ofNat_of_zero_le ha.1
  obtain ⟨B, rfl⟩ := Int.eq_ofNat_of_zero_le hb.1
  have hA : A < 18446744073709551616 := by have := ha.2; omega
  have hB : B < 18446744073709551616 := by have := hb.2; omega
  have hone : ∀ x : Bool, U64 (oneI x) := fun x => by cases x <;> decide
  have hy : ((B : Int) % 64).toNat < 64 := by omega
  cases h : kindB k with
  | false => rw [reckonV_none h]; decide
  | true =>
    rcases kind_cases h with rfl | rfl | rfl | rfl | rfl | rfl | rfl | rfl | rfl | rfl | rfl | rfl | rfl | rfl | rfl <;> simp only [reckonV, reduceIte, Int.reduceEq]
    · constructor <;> omega
    · constructor <;> omega
    · rw [bits_and_u64_nat _ _ hA hB]
      have := and_lt64 (a := A) hB
      constructor <;> omega
    · rw [bits_or_u64_nat _ _ hA hB]
      have := or_lt64 hA hB
      constructor <;> omega
    · rw [bits_xor_u64_nat _ _ hA hB]
      have := xor_lt64 hA hB
      constructor <;> omega
    · constructor <;> omega
    · split
      · decide
      · have h1 : 0 ≤ (A : Int) / (B : Int) := Int.ediv_nonneg ha.1 hb.1
        have h2 : (A : Int) / (B : Int) ≤ A := Int.ediv_le_self _ ha.1
        constructor <;> omega
    · split
      · decide
      · constructor <;> omega
    · constructor <;> omega
    · exact div_lt ha
    · constructor <;> omega
    · have e : (B : Int) % 64 = (((B : Int) % 64).toNat : Int) := by omega
      rw [e, ror_num ha hy]
      exact rol_in ha (by omega)
    · exact hone _
    · exact hone _
    · exact hone _
theorem law_add {a b : Int} (ha : U64 a) : reckonV 1 a b = sumV a b false ∧ reckonV 2 (sumV a b false) b = a := by
  have h1 := ha.1
  have h2 := ha.2
  have e : sumV a b false = (a + b) % 18446744073709551616 := by unfold sumV oneI; rw [cond_false, Int.add_zero]
  rw [e]
  refine ⟨by simp only [reckonV, reduceIte, Int.reduceEq], ?_⟩
  simp only [reckonV, reduceIte, Int.reduceEq]
  omega
theorem law_comm (a b : Int) : sumV b a false = sumV a b false ∧ addF b a false = addF a b false := by
  have e : sumV b a false = sumV a b false := by unfold sumV; rw [Int.add_comm b a]
  refine ⟨e, ?_⟩
  unfold addF
  rw [e, Int.add_comm b a, Int.add_comm (b % 9223372036854775808)]
theorem law_mul (a b c : Int) : reckonV 6 a (reckonV 1 b c) = reckonV 1 (reckonV 6 a b) (reckonV 6 a c) := by
  simp only [reckonV, reduceIte, Int.reduceEq]
  rw [← Int.add_emod, ← Int.mul_add, Int.mul_emod, Int.emod_emod_of_dvd _ (Int.dvd_refl _), ← Int.mul_emod]
theorem law_div {a b : Int} (ha : U64 a) (hb : U64 b) (h : b ≠ 0) : IntKind.u64.wrap (a - IntKind.u64.wrap (reckonV 7 a b * b)) < b ∧ reckonV 7 a b ≤ a := by
  simp only [reckonV, reduceIte, Int.reduceEq, if_neg h]
  have h0 : 0 < b := by have := hb.1; omega
  have e := Int.mul_ediv_add_emod a b
  have m0 : 0 ≤ a % b := Int.emod_nonneg _ h
  have m1 : a % b < b := Int.emod_lt_of_pos _ h0
  have q0 : 0 ≤ a / b := Int.ediv_nonneg ha.1 hb.1
  have q1 : a / b ≤ a := Int.ediv_le_self _ ha.1
  rw [Int.mul_comm] at e
  have p0 : 0 ≤ a / b * b := Int.mul_nonneg q0 hb.1
  have a2 := ha.2
  have b2 := hb.2
  rw [wrapU, wrapU]
  generalize a / b * b = x at *
  omega
theorem law_sdiv {a b : Int} (ha : U64 a) (h : b ≠ 0) (hm : a ≠ 9223372036854775808) : reckonV 8 (IntKind.u64.wrap (-a)) b = IntKind.u64.wrap (-(reckonV 8 a b)) := by
  have e : wrap64 (IntKind.u64.wrap (-a)) = -(wrap64 a) := by
    have := ha.1; have := ha.2
    rw [wrapU]
    unfold wrap64
    omega
  simp only [reckonV, reduceIte, Int.reduceEq, if_neg h, e, Int.neg_tdiv]
  generalize (wrap64 a).tdiv (wrap64 b) = x
  rw [wrapU]
  omega
theorem law_bits {a b : Int} (ha : U64 a) (hb : U64 b) : reckonV 5 (reckonV 5 a b) b = a ∧ reckonV 4 a b + reckonV 3 a b = a + b := by
  obtain ⟨A, rfl⟩ := Int.eq_ofNat_of_zero_le ha.1
  obtain ⟨B, rfl⟩ := Int.eq_ofNat_of_zero_le hb.1
  have hA : A < 18446744073709551616 := by have := ha.2; omega
  have hB : B < 18446744073709551616 := by have := hb.2; omega
  simp only [reckonV, reduceIte, Int.reduceEq]
  rw [bits_xor_u64_nat _ _ hA hB, bits_xor_u64_nat _ _ (xor_lt64 hA hB) hB, bits_or_u64_nat _ _ hA hB, bits_and_u64_nat _ _ hA hB, Nat.xor_assoc, Nat.xor_self, Nat.xor_zero]
  have := or_and A B
  exact ⟨rfl, by omega⟩
/-! ### Comparisons -/
theorem law_cmp {a b : Int} (ha : U64 a) (hb : U64 b) :
    U64 (bits .xor .u64 b 18446744073709551615) ∧ sumV a (bits .xor .u64 b 18446744073709551615) true = IntKind.u64.wrap (a - b) ∧
    ∃ n : Bool, addF a (bits .xor .u64 b 18446744073709551615) true = ⟨n, decide (a = b), !(decide (a < b)), n ^^ decide (wrap64 a < wrap64 b)⟩ := by
  rw [xor_all hb]
  have a1 := ha.1; have a2 := ha.2; have b1 := hb.1; have b2 := hb.2
  have e : sumV a (18446744073709551615 - b) true = (a - b) % 18446744073709551616 := by
    unfold sumV oneI
    simp only [cond_true]
    omega
  refine ⟨⟨by omega, by omega⟩, by rw [e, wrapU], decide (9223372036854775808 ≤ (a - b) % 18446744073709551616), ?_⟩
  unfold addF
  rw [e]
  congr 1
  · rw [Bool.eq_iff_iff, beq_iff_eq, decide_eq_true_eq]
    omega
  · rw [Bool.eq_iff_iff]
    simp only [Bool.not_eq_true', decide_eq_true_eq, decide_eq_false_iff_not]
    unfold oneI
    simp only [cond_true]
    omega
  · rw [xor_ne, Bool.eq_iff_iff]
    unfold oneI wrap64
    simp only [cond_true, bne_iff_ne, ne_eq, decide_eq_decide]
    omega
theorem law_three (a b : Int) : (decide (a < b) = true ∧ decide (a = b) = false ∧ decide (b < a) = false) ∨ (decide (a < b) = false ∧ decide (a = b) = true ∧ decide (b < a) = false ∧ decide (wrap64 a < wrap64 b) = false) ∨ (decide (a < b) = false ∧ decide (a = b) = false ∧ decide (b < a) = true) := by
  simp only [decide_eq_true_eq, decide_eq_false_iff_not]
  by_cases h : a = b
  · subst h; omega
  · omega
/-! ### Turns -/
theorem rol_back {a : Int} {k : Nat} (ha : U64 a) (h0 : 0 < k) (hk : k < 64) : rolV (rolV a k) (64 - k) = a := by
  have hp := pow_pos k
  have hq := pow_pos (64 - k)
  have h1 := div_lt' (j := 64 - k) (k := k) ha (by omega)
  have h2 := (div_lt (k := k) ha).1
  have e : rolV a k = a / 2 ^ k + a % 2 ^ k * 2 ^ (64 - k) := rfl
  have e1 : rolV a k / 2 ^ (64 - k) = a % 2 ^ k := by
    rw [e, Int.add_mul_ediv_right _ _ (by omega), Int.ediv_eq_zero_of_lt h2 h1, Int.zero_add]
  have e2 : rolV a k % 2 ^ (64 - k) = a / 2 ^ k := by
    rw [e, Int.add_mul_emod_self_right, Int.emod_eq_of_lt h2 h1]
  have e3 : 64 - (64 - k) = k := by omega
  show rolV a k / 2 ^ (64 - k) + rolV a k % 2 ^ (64 - k) * 2 ^ (64 - (64 - k)) = a
  rw [e1, e2, e3, Int.mul_comm]
  have := Int.mul_ediv_add_emod a (2 ^ k)
  omega
theorem turn_back {a : Int} {y : Nat} (ha : U64 a) (hy : y ≤ 63) : U64 (reckonV 12 a (y : Int)) ∧ reckonV 12 (reckonV 12 a (y : Int)) ((64 - (y : Int)) % 64) = a := by
  have e1 : reckonV 12 a (y : Int) = rolV a y := by
    simp only [reckonV, reduceIte, Int.reduceEq]
    rw [show (y : Int) % 64 = (y : Int) by omega, ror_num ha (by omega)]
  have hr := rol_in (k := y) ha (by omega)
  rw [e1]
  refine ⟨hr, ?_⟩
  simp only [reckonV, reduceIte, Int.reduceEq]
  by_cases h : y = 0
  · subst h
    rw [show (64 - ((0 : Nat) : Int)) % 64 % 64 = ((0 : Nat) : Int) by decide, rol_zero, ror_num ha (by omega), rol_zero]
  · rw [show (64 - (y : Int)) % 64 % 64 = ((64 - y : Nat) : Int) by omega, ror_num hr (by omega), rol_back ha (by omega) (by omega)]
theorem updown {a : Int} {y : Nat} (ha : U64 a) (hy : y ≤ 63) : U64 (reckonV 9 a (y : Int)) ∧ reckonV 10 (reckonV 9 a (y : Int)) (y : Int) = bits .and .u64 a (18446744073709551615 / 2 ^ y) := by
  have e1 : reckonV 9 a (y : Int) = a * 2 ^ y % 18446744073709551616 := by
    simp only [reckonV, reduceIte, Int.reduceEq]
    rw [show ((y : Int) % 64).toNat = y by omega]
  refine ⟨by rw [e1]; constructor <;> omega, ?_⟩
  have hp := pow_pos y
  have e2 := pow_split (j := y) (k := 64 - y) (by omega)
  have e3 : reckonV 10 (reckonV 9 a (y : Int)) (y : Int) = a % 2 ^ (64 - y) := by
    rw [e1]
    simp only [reckonV, reduceIte, Int.reduceEq]
    rw [show ((y : Int) % 64).toNat = y by omega, ← e2, Int.mul_comm a, Int.mul_emod_mul_of_pos _ _ hp, Int.mul_ediv_cancel_left _ (by omega)]
  rw [e3]
  have e4 : (18446744073709551615 : Int) / 2 ^ y = ((2 ^ (64 - y) - 1 : Nat) : Int) := by
    have h1 := pow_nat (64 - y)
    have h2 : 1 ≤ 2 ^ (64 - y) := Nat.one_le_two_pow
    have h3 : (18446744073709551615 : Int) = (2 ^ y - 1) + (2 ^ (64 - y) - 1) * 2 ^ y := by
      rw [Int.sub_mul, Int.mul_comm (2 ^ (64 - y)), e2]; omega
    rw [h3, Int.add_mul_ediv_right _ _ (by omega), Int.ediv_eq_zero_of_lt (by omega) (by omega)]
    omega
  obtain ⟨A, rfl⟩ := Int.eq_ofNat_of_zero_le ha.1
  have hA : A < 18446744073709551616 := by have := ha.2; omega
  have h5 : 2 ^ (64 - y) - 1 < 18446744073709551616 := by
    have : 2 ^ (64 - y) ≤ 2 ^ 64 := Nat.pow_le_pow_right (by decide) (by omega)
    have e : (2 : Nat) ^ 64 = 18446744073709551616 := by decide
    omega
  rw [e4, bits_and_u64_nat _ _ hA h5, Nat.and_two_pow_sub_one_eq_mod]
  simp
theorem whole_same {a : Int} (ha : U64 a) : moveV a true 0 63 = a ∧ moveE 0 63 = 0 := by
  have e : moveV a true 0 63 = moveW a true 0 63 := rfl
  refine ⟨?_, by decide⟩
  rw [e]
  unfold moveW movedN endN
  simp only [Int.pow_zero, Int.ediv_one]
  have := ha.1; have := ha.2
  have e2 : (2 : Int) ^ (63 - 0 + 1) = 18446744073709551616 := by decide
  rw [if_neg (by omega), if_neg (by omega), e2]
  simp
  omega
theorem pow_le64i {e : Nat} (h : e ≤ 64) : (2 : Int) ^ e ≤ 18446744073709551616 := by
  have h : 2 ^ e ≤ 2 ^ 64 := Nat.pow_le_pow_right (by decide) h
  have q := pow_nat e
  have h2 : (2 : Nat) ^ 64 = 18446744073709551616 := by decide
  omega
theorem part_and {v : Int} {r s : Nat} (hr : r ≤ 63) (hs : s ≤ 63) : bits .and .u64 (moveW v false r s) (moveW v true r s) = moveW v false r s := by
  have h := moved_in (v := v) (r := r) (s := s)
  have e := end_in hr hs
  have hM := pow_le64i e.2
  have e0 : moveW v false r s = movedN v r s := by unfold moveW; simp
  have e1 : moveW v true r s = movedN v r s + v / 2 ^ s % 2 * (18446744073709551616 - 2 ^ endN r s) := rfl
  have hb : v / 2 ^ s % 2 = 0 ∨ v / 2 ^ s % 2 = 1 := by omega
  rw [e0, e1]
  generalize movedN v r s = x at *
  generalize endN r s = n at *
  obtain ⟨X, rfl⟩ := Int.eq_ofNat_of_zero_le h.1
  have q := pow_nat n
  have hX : X < 2 ^ n := by omega
  have e3 : (2 : Nat) ^ n * 2 ^ (64 - n) = 18446744073709551616 := by
    rw [← Nat.pow_add, show n + (64 - n) = 64 by omega]
  rcases hb with hb | hb <;> rw [hb]
  · rw [Int.zero_mul, Int.add_zero, bits_and_u64_nat _ _ (by omega) (by omega), Nat.and_self]
  · have e2 : (X : Int) + 1 * (18446744073709551616 - 2 ^ n) = ((2 ^ n * (2 ^ (64 - n) - 1) + X : Nat) : Int) := by
      have : 2 ^ n * (2 ^ (64 - n) - 1) = 18446744073709551616 - 2 ^ n := by rw [Nat.mul_sub, e3, Nat.mul_one]
      rw [this]
      omega
    have h6 : 2 ^ n * (2 ^ (64 - n) - 1) + X < 18446744073709551616 := by
      have : 2 ^ n * (2 ^ (64 - n) - 1) = 18446744073709551616 - 2 ^ n := by rw [Nat.mul_sub, e3, Nat.mul_one]
      omega
    rw [e2, bits_and_u64_nat _ _ (by omega) h6, Nat.two_pow_add_eq_or_of_lt hX]
    congr 1
    apply Nat.eq_of_testBit_eq
    intro i
    rw [Nat.testBit_and, Nat.testBit_or]
    cases X.testBit i <;> simp
theorem part_low {v : Int} {r s : Nat} (h : r ≤ s) : moveW v false r s / 2 ^ (s - r + 1) = 0 := by
  have e0 : moveW v false r s = movedN v r s := by unfold moveW; simp
  have hm := moved_in (v := v) (r := r) (s := s)
  have hN : endN r s = s - r + 1 := by unfold endN; rw [if_neg (by omega)]
  rw [hN] at hm
  rw [e0]
  exact Int.ediv_eq_zero_of_lt hm.1 hm.2
end Go.Proofs.Ytakmnbahogogiaa
