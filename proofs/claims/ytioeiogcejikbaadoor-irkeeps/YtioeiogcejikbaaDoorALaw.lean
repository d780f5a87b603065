/- From stage 5: Law. -/
import Derived.Test.YtioeiogcejikbaaDoorARols
import Derived.Test.YtioeiogcejikbaaDoorARReck
namespace Go.Proofs.YtioeiogcejikbaaDoor.Alu
open Go.RowKit
set_option linter.unusedVariables false
set_option linter.unusedSimpArgs false
set_option maxRecDepth 8000

theorem reckon_in {k a b : Int} (ha : U64 a) (hb : U64 b) : U64 (reckonV k a b) := by
  obtain ⟨A, rfl⟩ := Int.eq_ofNat_of_zero_le ha.1
  obtain ⟨B, rfl⟩ := Int.eq_ofNat_of_zero_le hb.1
  have hA : A < 18446744073709551616 := by have := ha.2; omega
  have hB : B < 18446744073709551616 := by have := hb.2; omega
  have hone : ∀ x : Bool, U64 (oneI x) := fun x => by cases x <;> decide
  have hy : ((B : Int) % 64).toNat < 64 := by omega
  cases h : kindB k with
  | false => rw [reckonV_none h]; decide
  | true =>
    rcases kind_cases h with rfl | rfl | rfl | rfl | rfl | rfl | rfl | rfl | rfl | rfl | rfl | rfl | rfl | rfl | rfl <;> simp only [reckonV, reduceIte, Int.reduceEq]
    · constructor <;> omega
    · constructor <;> omega
    · rw [bits_and_u64_nat _ _ hA hB]
      have := and_lt64 (a := A) hB
      constructor <;> omega
    · rw [bits_or_u64_nat _ _ hA hB]
      have := or_lt64 hA hB
      constructor <;> omega
    · rw [bits_xor_u64_nat _ _ hA hB]
      have := xor_lt64 hA hB
      constructor <;> omega
    · constructor <;> omega
    · split
      · decide
      · have h1 : 0 ≤ (A : Int) / (B : Int) := Int.ediv_nonneg ha.1 hb.1
        have h2 : (A : Int) / (B : Int) ≤ A := Int.ediv_le_self _ ha.1
        constructor <;> omega
    · split
      · decide
      · constructor <;> omega
    · constructor <;> omega
    · exact div_lt ha
    · constructor <;> omega
    · have e : (B : Int) % 64 = (((B : Int) % 64).toNat : Int) := by omega
      rw [e, ror_num ha hy]
      exact rol_in ha (by omega)
    · exact hone _
    · exact hone _
    · exact hone _
end Go.Proofs.YtioeiogcejikbaaDoor.Alu
