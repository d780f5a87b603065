/- The parts that are told of a mask make it again: a plain fact, and the contracts of Parts and Mask one behind the other. -/
import Derived.Test.YtpoaapncfojhoaaParts
import Derived.Test.YtpoaapncfojhoaaPlainE
namespace Go.Proofs.Ytpoaapncfojhoaa
open Go.RowKit

theorem hit_makes {M t s r : Nat} (h : hit M t s r) : maskE (formA t) (r : Int) (formC t s) = 0 ∧ maskV (formA t) (r : Int) (formC t s) = (M : Int) := by
  obtain ⟨h1, h2, h3, h4, h5⟩ := h
  rcases Nat.lt_or_eq_of_le h2 with c | c
  · have e := mask_zero rfl h1 c h3 h4
    have ea : formA t = 0 := by unfold formA; rw [if_neg (by omega)]
    have ec : formC t s = 64 - 2 * ((2 ^ t : Nat) : Int) + (s : Int) := by unfold formC; rw [if_neg (by omega)]
    rw [ea, ec, e.1, e.2, h5]
    exact ⟨rfl, rfl⟩
  · subst c
    have e := mask_one h3 h4
    have ea : formA 6 = 1 := rfl
    have ec : formC 6 s = (s : Int) := rfl
    rw [ea, ec, e.1, e.2]
    refine ⟨rfl, ?_⟩
    rw [← h5]

theorem parts_make {M : Nat} {a b c d : Int} (h : PartsAre M a b c d) : (d = 0 ∧ maskE a b c = 0 ∧ maskV a b c = (M : Int)) ∨ (d = 2 ∧ a = 0 ∧ b = 0 ∧ c = 0 ∧ ∀ t s r, ¬ hit M t s r) := by
  rcases h with ⟨t, s, r, ⟨h1, _⟩, rfl, rfl, rfl, rfl⟩ | ⟨h, rfl, rfl, rfl, rfl⟩
  · exact Or.inl ⟨rfl, hit_makes h1⟩
  · exact Or.inr ⟨rfl, rfl, rfl, rfl, h⟩

/-- Parts of a number: it has none, or Mask makes it of them again. -/
theorem parts_m (mask : Int) (hv : Hid (0 ≤ mask ∧ mask < 18446744073709551616)) (w : World) :
    Calls Try.prog 20 #[.int .u64 mask] w fun e w' => (∃ a b c d : Int, e = .returned (.tuple #[.int .i64 a, .int .i64 b, .int .i64 c, .int .i64 d]) ∧
      ((d = 0 ∧ Hid (maskE a b c = 0 ∧ maskV a b c = mask)) ∨ (d = 2 ∧ a = 0 ∧ b = 0 ∧ c = 0 ∧ Hid (∀ t s r, ¬ hit mask.toNat t s r)))) ∧ ∃ n, w' = w.drewN n := by
  refine (parts_c mask hv w).mono ?_
  rintro e w' ⟨⟨a, b, c, d, rfl, h⟩, hn⟩
  refine ⟨⟨a, b, c, d, rfl, ?_⟩, hn⟩
  rcases parts_make h with ⟨h1, h2, h3⟩ | h
  · refine Or.inl ⟨h1, h2, ?_⟩
    rw [h3]
    have := hv.out
    omega
  · exact Or.inr h

/-- Mask of such parts. -/
theorem mask_m {a b c mask : Int} (h : Hid (maskE a b c = 0 ∧ maskV a b c = mask)) (w : World) :
    Calls Try.prog 18 #[.int .i64 a, .int .i64 b, .int .i64 c] w fun e w' => e = .returned (.tuple #[.int .u64 mask, .int .i64 0]) ∧ ∃ m, w' = w.drewN m := by
  have := mask_c a b c w
  rwa [h.out.1, h.out.2] at this

end Go.Proofs.Ytpoaapncfojhoaa
