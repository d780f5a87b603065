/- Whether an instruction is right: the document's own answer is the program's, for every instruction: plain. -/
import Derived.Test.YtcmilajlngnibaaK19
import Derived.Test.YtcmilajlngnibaaK20
import Derived.Test.YtcmilajlngnibaaK21
import Derived.Test.YtcmilajlngnibaaK22
import Derived.Test.YtcmilajlngnibaaK23
namespace Go.Proofs.Ytcmilajlngnibaa
open Go.RowKit
set_option linter.unusedSimpArgs false

theorem holds_in (lo hi n : Int) : holdsB ⟨lo, hi, 1⟩ n = inB n lo hi := by
  unfold holdsB inB
  simp only [Int.tmod_one, beq_self_eq_true, Bool.or_true, Bool.and_true]
theorem holds_zero (n : Int) : holdsB ⟨0, 0, 0⟩ n = (n == 0) := by
  rw [Bool.eq_iff_iff]
  simp only [holdsB, Bool.and_eq_true, Bool.or_eq_true, decide_eq_true_eq, beq_iff_eq]
  constructor
  · rintro ⟨⟨a, b⟩, _⟩; omega
  · rintro rfl; exact ⟨⟨by decide, by decide⟩, .inl rfl⟩
theorem holds_step (lo hi u n : Int) : holdsB ⟨lo, hi, u⟩ n = stepB n u lo hi := by
  rw [Bool.eq_iff_iff]
  simp only [holdsB, stepB, Bool.and_eq_true, Bool.or_eq_true, decide_eq_true_eq, beq_iff_eq]
  constructor
  · rintro ⟨⟨a, b⟩, c⟩
    refine ⟨⟨?_, a⟩, b⟩
    rcases c with rfl | c
    · exact Int.zero_tmod _
    · exact c
  · rintro ⟨⟨c, a⟩, b⟩; exact ⟨⟨a, b⟩, .inr c⟩
theorem step_two {n u : Int} (hu : 1 ≤ u) : stepB n u 0 u = (n == 0 || n == u) := by
  rw [Bool.eq_iff_iff]
  simp only [stepB, Bool.and_eq_true, Bool.or_eq_true, decide_eq_true_eq, beq_iff_eq]
  constructor
  · rintro ⟨⟨c, a⟩, b⟩
    obtain ⟨d, rfl⟩ := Int.dvd_of_tmod_eq_zero c
    rcases (by omega : d ≤ 0 ∨ d = 1 ∨ 2 ≤ d) with h | rfl | h
    · left
      have := Int.mul_le_mul_of_nonneg_left h (show 0 ≤ u by omega)
      omega
    · right; omega
    · have := Int.mul_le_mul_of_nonneg_left h (show 0 ≤ u by omega)
      omega
  · rintro (rfl | rfl)
    · exact ⟨⟨Int.zero_tmod _, by decide⟩, by omega⟩
    · exact ⟨⟨Int.tmod_self, by omega⟩, by omega⟩
theorem sub_three (n : Int) : (n == 0 || n == 2 || n == 3) = (inB n 0 3 && n != 1) := by
  rw [Bool.eq_iff_iff]
  simp only [inB, Bool.and_eq_true, Bool.or_eq_true, decide_eq_true_eq, beq_iff_eq, bne_iff_ne]
  omega
theorem mask_in (a b c : Int) : (maskE a b c == 0) = (inB a 0 1 && inB b 0 63 && inB c 0 63 && (maskE a b c == 0)) := by
  by_cases h : argB a b c = true
  · obtain ⟨⟨a1, a2⟩, ⟨a3, a4⟩, a5, a6⟩ := arg_of h
    unfold inB
    simp [a1, a2, a3, a4, a5, a6]
  · have h : argB a b c = false := by simpa using h
    rw [(mask_arg h).2]; simp
theorem adr_in (s n : Int) : (s == 0 && inB n (-1048576) 1048575 || s == 1 && stepB n 4096 (-4294967296) 4294963200) = (inB s 0 1 && holdsB (immS 11 s) n) := by
  by_cases h0 : s = 0
  · subst h0
    rw [show immS 11 0 = ⟨-1048576, 1048575, 1⟩ from rfl, holds_in]
    simp [inB]
  · by_cases h1 : s = 1
    · subst h1
      rw [show immS 11 1 = ⟨-4294967296, 4294963200, 4096⟩ from rfl, holds_step]
      simp [inB]
    · have : inB s 0 1 = false := by
        unfold inB
        rw [← decide_eq_true_eq (p := s = 0)] at h0
        simp only [Bool.and_eq_false_iff, decide_eq_false_iff_not]
        simp at h0
        omega
      rw [this]
      simp [h0, h1]
theorem re1 (sub rd rn rm ra imm imm2 amount shift cond sys : Int) (flags minus not link : Bool) : rightR ⟨1, sub, rd, rn, rm, ra, imm, imm2, amount, shift, cond, sys, flags, minus, not, link⟩ = rightB ⟨1, sub, rd, rn, rm, ra, imm, imm2, amount, shift, cond, sys, flags, minus, not, link⟩ := by
  have e1 : rightR ⟨1, sub, rd, rn, rm, ra, imm, imm2, amount, shift, cond, sys, flags, minus, not, link⟩ = (((inB rd 0 31 && (inB rn 0 31 && ((rm == 0) && ((ra == 0) && ((imm2 == 0) && ((shift == 0) && ((sub == 0) && ((cond == 0) && ((sys == 0) && true))))))))) && (!not && (!link && true))) && (inB imm 0 4095 && (amount == 0 || amount == 12))) := rfl
  rw [e1]
  have e2 : rightB ⟨1, sub, rd, rn, rm, ra, imm, imm2, amount, shift, cond, sys, flags, minus, not, link⟩ = ((((((((((((holdsB ⟨0, 31, 1⟩ rd && holdsB ⟨0, 31, 1⟩ rn) && holdsB ⟨0, 0, 0⟩ rm) && holdsB ⟨0, 0, 0⟩ ra) && holdsB ⟨0, 0, 0⟩ sub) && holdsB ⟨0, 4095, 1⟩ imm) && holdsB ⟨0, 0, 0⟩ imm2) && holdsB ⟨0, 12, 12⟩ amount) && holdsB ⟨0, 0, 0⟩ shift) && holdsB ⟨0, 0, 0⟩ cond) && (((true && true) && !not) && !link)) && (sys == 0)) && true) := rfl
  rw [e2]
  rw [← step_two (n := amount) (u := 12) (by decide)]; simp only [holds_zero, holds_in, holds_step (0) 12 12, Bool.and_true, Bool.true_and]
  ac_rfl
theorem re2 (sub rd rn rm ra imm imm2 amount shift cond sys : Int) (flags minus not link : Bool) : rightR ⟨2, sub, rd, rn, rm, ra, imm, imm2, amount, shift, cond, sys, flags, minus, not, link⟩ = rightB ⟨2, sub, rd, rn, rm, ra, imm, imm2, amount, shift, cond, sys, flags, minus, not, link⟩ := by
  have e1 : rightR ⟨2, sub, rd, rn, rm, ra, imm, imm2, amount, shift, cond, sys, flags, minus, not, link⟩ = (((inB rd 0 31 && (inB rn 0 31 && (inB rm 0 31 && ((ra == 0) && ((imm == 0) && ((imm2 == 0) && ((sub == 0) && ((cond == 0) && ((sys == 0) && true))))))))) && (!not && (!link && true))) && (inB shift 0 2 && inB amount 0 63)) := rfl
  rw [e1]
  have e2 : rightB ⟨2, sub, rd, rn, rm, ra, imm, imm2, amount, shift, cond, sys, flags, minus, not, link⟩ = ((((((((((((holdsB ⟨0, 31, 1⟩ rd && holdsB ⟨0, 31, 1⟩ rn) && holdsB ⟨0, 31, 1⟩ rm) && holdsB ⟨0, 0, 0⟩ ra) && holdsB ⟨0, 0, 0⟩ sub) && holdsB ⟨0, 0, 0⟩ imm) && holdsB ⟨0, 0, 0⟩ imm2) && holdsB ⟨0, 63, 1⟩ amount) && holdsB ⟨0, 2, 1⟩ shift) && holdsB ⟨0, 0, 0⟩ cond) && (((true && true) && !not) && !link)) && (sys == 0)) && true) := rfl
  rw [e2]
  simp only [holds_zero, holds_in, Bool.and_true, Bool.true_and]
  ac_rfl
theorem re3 (sub rd rn rm ra imm imm2 amount shift cond sys : Int) (flags minus not link : Bool) : rightR ⟨3, sub, rd, rn, rm, ra, imm, imm2, amount, shift, cond, sys, flags, minus, not, link⟩ = rightB ⟨3, sub, rd, rn, rm, ra, imm, imm2, amount, shift, cond, sys, flags, minus, not, link⟩ := by
  have e1 : rightR ⟨3, sub, rd, rn, rm, ra, imm, imm2, amount, shift, cond, sys, flags, minus, not, link⟩ = (((inB rd 0 31 && (inB rn 0 31 && (inB rm 0 31 && ((ra == 0) && ((imm == 0) && ((imm2 == 0) && ((cond == 0) && ((sys == 0) && true)))))))) && (!minus && (!link && true))) && (inB sub 0 2 && (!flags || sub == 0) && inB shift 0 3 && inB amount 0 63)) := rfl
  rw [e1]
  have e2 : rightB ⟨3, sub, rd, rn, rm, ra, imm, imm2, amount, shift, cond, sys, flags, minus, not, link⟩ = ((((((((((((holdsB ⟨0, 31, 1⟩ rd && holdsB ⟨0, 31, 1⟩ rn) && holdsB ⟨0, 31, 1⟩ rm) && holdsB ⟨0, 0, 0⟩ ra) && holdsB ⟨0, 2, 1⟩ sub) && holdsB ⟨0, 0, 0⟩ imm) && holdsB ⟨0, 0, 0⟩ imm2) && holdsB ⟨0, 63, 1⟩ amount) && holdsB ⟨0, 3, 1⟩ shift) && holdsB ⟨0, 0, 0⟩ cond) && ((((sub == 0 || !flags) && !minus) && true) && !link)) && (sys == 0)) && true) := rfl
  rw [e2]
  rw [Bool.or_comm (!flags)]; simp only [holds_zero, holds_in, Bool.and_true, Bool.true_and]
  ac_rfl
theorem re4 (sub rd rn rm ra imm imm2 amount shift cond sys : Int) (flags minus not link : Bool) : rightR ⟨4, sub, rd, rn, rm, ra, imm, imm2, amount, shift, cond, sys, flags, minus, not, link⟩ = rightB ⟨4, sub, rd, rn, rm, ra, imm, imm2, amount, shift, cond, sys, flags, minus, not, link⟩ := by
  have e1 : rightR ⟨4, sub, rd, rn, rm, ra, imm, imm2, amount, shift, cond, sys, flags, minus, not, link⟩ = (((inB rd 0 31 && (inB rn 0 31 && ((rm == 0) && ((ra == 0) && ((shift == 0) && ((cond == 0) && ((sys == 0) && true))))))) && (!minus && (!not && (!link && true)))) && (inB sub 0 2 && (!flags || sub == 0) && maskE amount imm imm2 == 0)) := rfl
  rw [e1]
  have e2 : rightB ⟨4, sub, rd, rn, rm, ra, imm, imm2, amount, shift, cond, sys, flags, minus, not, link⟩ = ((((((((((((holdsB ⟨0, 31, 1⟩ rd && holdsB ⟨0, 31, 1⟩ rn) && holdsB ⟨0, 0, 0⟩ rm) && holdsB ⟨0, 0, 0⟩ ra) && holdsB ⟨0, 2, 1⟩ sub) && holdsB ⟨0, 63, 1⟩ imm) && holdsB ⟨0, 63, 1⟩ imm2) && holdsB ⟨0, 1, 1⟩ amount) && holdsB ⟨0, 0, 0⟩ shift) && holdsB ⟨0, 0, 0⟩ cond) && ((((sub == 0 || !flags) && !minus) && !not) && !link)) && (sys == 0)) && (maskE amount imm imm2 == 0)) := rfl
  rw [e2]
  rw [mask_in, Bool.or_comm (!flags)]; simp only [holds_zero, holds_in, Bool.and_true, Bool.true_and]
  ac_rfl
theorem re5 (sub rd rn rm ra imm imm2 amount shift cond sys : Int) (flags minus not link : Bool) : rightR ⟨5, sub, rd, rn, rm, ra, imm, imm2, amount, shift, cond, sys, flags, minus, not, link⟩ = rightB ⟨5, sub, rd, rn, rm, ra, imm, imm2, amount, shift, cond, sys, flags, minus, not, link⟩ := by
  have e1 : rightR ⟨5, sub, rd, rn, rm, ra, imm, imm2, amount, shift, cond, sys, flags, minus, not, link⟩ = (((inB rd 0 31 && ((rn == 0) && ((rm == 0) && ((ra == 0) && ((imm2 == 0) && ((shift == 0) && ((cond == 0) && ((sys == 0) && true)))))))) && (!flags && (!minus && (!not && (!link && true))))) && ((sub == 0 || sub == 2 || sub == 3) && inB imm 0 65535 && stepB amount 16 0 48)) := rfl
  rw [e1]
  have e2 : rightB ⟨5, sub, rd, rn, rm, ra, imm, imm2, amount, shift, cond, sys, flags, minus, not, link⟩ = ((((((((((((holdsB ⟨0, 31, 1⟩ rd && holdsB ⟨0, 0, 0⟩ rn) && holdsB ⟨0, 0, 0⟩ rm) && holdsB ⟨0, 0, 0⟩ ra) && holdsB ⟨0, 3, 1⟩ sub) && holdsB ⟨0, 65535, 1⟩ imm) && holdsB ⟨0, 0, 0⟩ imm2) && holdsB ⟨0, 48, 16⟩ amount) && holdsB ⟨0, 0, 0⟩ shift) && holdsB ⟨0, 0, 0⟩ cond) && (((!flags && !minus) && !not) && !link)) && (sys == 0)) && (sub != 1)) := rfl
  rw [e2]
  rw [sub_three]; simp only [holds_zero, holds_in, holds_step (0) 48 16, Bool.and_true, Bool.true_and]
  ac_rfl
theorem re6 (sub rd rn rm ra imm imm2 amount shift cond sys : Int) (flags minus not link : Bool) : rightR ⟨6, sub, rd, rn, rm, ra, imm, imm2, amount, shift, cond, sys, flags, minus, not, link⟩ = rightB ⟨6, sub, rd, rn, rm, ra, imm, imm2, amount, shift, cond, sys, flags, minus, not, link⟩ := by
  have e1 : rightR ⟨6, sub, rd, rn, rm, ra, imm, imm2, amount, shift, cond, sys, flags, minus, not, link⟩ = (((inB rd 0 31 && (inB rn 0 31 && ((rm == 0) && ((ra == 0) && ((amount == 0) && ((shift == 0) && ((cond == 0) && ((sys == 0) && true)))))))) && (!flags && (!minus && (!not && (!link && true))))) && ((sub == 0 || sub == 2) && inB imm 0 63 && inB imm2 0 63)) := rfl
  rw [e1]
  have e2 : rightB ⟨6, sub, rd, rn, rm, ra, imm, imm2, amount, shift, cond, sys, flags, minus, not, link⟩ = ((((((((((((holdsB ⟨0, 31, 1⟩ rd && holdsB ⟨0, 31, 1⟩ rn) && holdsB ⟨0, 0, 0⟩ rm) && holdsB ⟨0, 0, 0⟩ ra) && holdsB ⟨0, 2, 2⟩ sub) && holdsB ⟨0, 63, 1⟩ imm) && holdsB ⟨0, 63, 1⟩ imm2) && holdsB ⟨0, 0, 0⟩ amount) && holdsB ⟨0, 0, 0⟩ shift) && holdsB ⟨0, 0, 0⟩ cond) && (((!flags && !minus) && !not) && !link)) && (sys == 0)) && true) := rfl
  rw [e2]
  rw [← step_two (n := sub) (u := 2) (by decide)]; simp only [holds_zero, holds_in, holds_step (0) 2 2, Bool.and_true, Bool.true_and]
  ac_rfl
theorem re7 (sub rd rn rm ra imm imm2 amount shift cond sys : Int) (flags minus not link : Bool) : rightR ⟨7, sub, rd, rn, rm, ra, imm, imm2, amount, shift, cond, sys, flags, minus, not, link⟩ = rightB ⟨7, sub, rd, rn, rm, ra, imm, imm2, amount, shift, cond, sys, flags, minus, not, link⟩ := by
  have e1 : rightR ⟨7, sub, rd, rn, rm, ra, imm, imm2, amount, shift, cond, sys, flags, minus, not, link⟩ = (((inB rd 0 31 && (inB rn 0 31 && (inB rm 0 31 && ((ra == 0) && ((imm == 0) && ((imm2 == 0) && ((amount == 0) && ((shift == 0) && ((cond == 0) && ((sys == 0) && true)))))))))) && (!flags && (!minus && (!not && (!link && true))))) && (inB sub 0 3)) := rfl
  rw [e1]
  have e2 : rightB ⟨7, sub, rd, rn, rm, ra, imm, imm2, amount, shift, cond, sys, flags, minus, not, link⟩ = ((((((((((((holdsB ⟨0, 31, 1⟩ rd && holdsB ⟨0, 31, 1⟩ rn) && holdsB ⟨0, 31, 1⟩ rm) && holdsB ⟨0, 0, 0⟩ ra) && holdsB ⟨0, 3, 1⟩ sub) && holdsB ⟨0, 0, 0⟩ imm) && holdsB ⟨0, 0, 0⟩ imm2) && holdsB ⟨0, 0, 0⟩ amount) && holdsB ⟨0, 0, 0⟩ shift) && holdsB ⟨0, 0, 0⟩ cond) && (((!flags && !minus) && !not) && !link)) && (sys == 0)) && true) := rfl
  rw [e2]
  simp only [holds_zero, holds_in, Bool.and_true, Bool.true_and]
  ac_rfl
theorem re8 (sub rd rn rm ra imm imm2 amount shift cond sys : Int) (flags minus not link : Bool) : rightR ⟨8, sub, rd, rn, rm, ra, imm, imm2, amount, shift, cond, sys, flags, minus, not, link⟩ = rightB ⟨8, sub, rd, rn, rm, ra, imm, imm2, amount, shift, cond, sys, flags, minus, not, link⟩ := by
  have e1 : rightR ⟨8, sub, rd, rn, rm, ra, imm, imm2, amount, shift, cond, sys, flags, minus, not, link⟩ = (((inB rd 0 31 && (inB rn 0 31 && (inB rm 0 31 && (inB ra 0 31 && ((imm == 0) && ((imm2 == 0) && ((amount == 0) && ((shift == 0) && ((sub == 0) && ((cond == 0) && ((sys == 0) && true))))))))))) && (!flags && (!not && (!link && true)))) && (true)) := rfl
  rw [e1]
  have e2 : rightB ⟨8, sub, rd, rn, rm, ra, imm, imm2, amount, shift, cond, sys, flags, minus, not, link⟩ = ((((((((((((holdsB ⟨0, 31, 1⟩ rd && holdsB ⟨0, 31, 1⟩ rn) && holdsB ⟨0, 31, 1⟩ rm) && holdsB ⟨0, 31, 1⟩ ra) && holdsB ⟨0, 0, 0⟩ sub) && holdsB ⟨0, 0, 0⟩ imm) && holdsB ⟨0, 0, 0⟩ imm2) && holdsB ⟨0, 0, 0⟩ amount) && holdsB ⟨0, 0, 0⟩ shift) && holdsB ⟨0, 0, 0⟩ cond) && (((!flags && true) && !not) && !link)) && (sys == 0)) && true) := rfl
  rw [e2]
  simp only [holds_zero, holds_in, Bool.and_true, Bool.true_and]
  ac_rfl
theorem re9 (sub rd rn rm ra imm imm2 amount shift cond sys : Int) (flags minus not link : Bool) : rightR ⟨9, sub, rd, rn, rm, ra, imm, imm2, amount, shift, cond, sys, flags, minus, not, link⟩ = rightB ⟨9, sub, rd, rn, rm, ra, imm, imm2, amount, shift, cond, sys, flags, minus, not, link⟩ := by
  have e1 : rightR ⟨9, sub, rd, rn, rm, ra, imm, imm2, amount, shift, cond, sys, flags, minus, not, link⟩ = (((inB rd 0 31 && (inB rn 0 31 && (inB rm 0 31 && ((ra == 0) && ((imm == 0) && ((imm2 == 0) && ((amount == 0) && ((shift == 0) && ((cond == 0) && ((sys == 0) && true)))))))))) && (!flags && (!minus && (!not && (!link && true))))) && (inB sub 0 1)) := rfl
  rw [e1]
  have e2 : rightB ⟨9, sub, rd, rn, rm, ra, imm, imm2, amount, shift, cond, sys, flags, minus, not, link⟩ = ((((((((((((holdsB ⟨0, 31, 1⟩ rd && holdsB ⟨0, 31, 1⟩ rn) && holdsB ⟨0, 31, 1⟩ rm) && holdsB ⟨0, 0, 0⟩ ra) && holdsB ⟨0, 1, 1⟩ sub) && holdsB ⟨0, 0, 0⟩ imm) && holdsB ⟨0, 0, 0⟩ imm2) && holdsB ⟨0, 0, 0⟩ amount) && holdsB ⟨0, 0, 0⟩ shift) && holdsB ⟨0, 0, 0⟩ cond) && (((!flags && !minus) && !not) && !link)) && (sys == 0)) && true) := rfl
  rw [e2]
  simp only [holds_zero, holds_in, Bool.and_true, Bool.true_and]
  ac_rfl
theorem re10 (sub rd rn rm ra imm imm2 amount shift cond sys : Int) (flags minus not link : Bool) : rightR ⟨10, sub, rd, rn, rm, ra, imm, imm2, amount, shift, cond, sys, flags, minus, not, link⟩ = rightB ⟨10, sub, rd, rn, rm, ra, imm, imm2, amount, shift, cond, sys, flags, minus, not, link⟩ := by
  have e1 : rightR ⟨10, sub, rd, rn, rm, ra, imm, imm2, amount, shift, cond, sys, flags, minus, not, link⟩ = (((inB rd 0 31 && (inB rn 0 31 && (inB rm 0 31 && ((ra == 0) && ((imm == 0) && ((imm2 == 0) && ((amount == 0) && ((shift == 0) && ((sys == 0) && true))))))))) && (!flags && (!minus && (!not && (!link && true))))) && (inB sub 0 3 && inB cond 0 15)) := rfl
  rw [e1]
  have e2 : rightB ⟨10, sub, rd, rn, rm, ra, imm, imm2, amount, shift, cond, sys, flags, minus, not, link⟩ = ((((((((((((holdsB ⟨0, 31, 1⟩ rd && holdsB ⟨0, 31, 1⟩ rn) && holdsB ⟨0, 31, 1⟩ rm) && holdsB ⟨0, 0, 0⟩ ra) && holdsB ⟨0, 3, 1⟩ sub) && holdsB ⟨0, 0, 0⟩ imm) && holdsB ⟨0, 0, 0⟩ imm2) && holdsB ⟨0, 0, 0⟩ amount) && holdsB ⟨0, 0, 0⟩ shift) && holdsB ⟨0, 15, 1⟩ cond) && (((!flags && !minus) && !not) && !link)) && (sys == 0)) && true) := rfl
  rw [e2]
  simp only [holds_zero, holds_in, Bool.and_true, Bool.true_and]
  ac_rfl
theorem re11 (sub rd rn rm ra imm imm2 amount shift cond sys : Int) (flags minus not link : Bool) : rightR ⟨11, sub, rd, rn, rm, ra, imm, imm2, amount, shift, cond, sys, flags, minus, not, link⟩ = rightB ⟨11, sub, rd, rn, rm, ra, imm, imm2, amount, shift, cond, sys, flags, minus, not, link⟩ := by
  have e1 : rightR ⟨11, sub, rd, rn, rm, ra, imm, imm2, amount, shift, cond, sys, flags, minus, not, link⟩ = (((inB rd 0 31 && ((rn == 0) && ((rm == 0) && ((ra == 0) && ((imm2 == 0) && ((amount == 0) && ((shift == 0) && ((cond == 0) && ((sys == 0) && true))))))))) && (!flags && (!minus && (!not && (!link && true))))) && ((sub == 0 && inB imm (-1048576) 1048575 || sub == 1 && stepB imm 4096 (-4294967296) 4294963200))) := rfl
  rw [e1]
  have e2 : rightB ⟨11, sub, rd, rn, rm, ra, imm, imm2, amount, shift, cond, sys, flags, minus, not, link⟩ = ((((((((((((holdsB ⟨0, 31, 1⟩ rd && holdsB ⟨0, 0, 0⟩ rn) && holdsB ⟨0, 0, 0⟩ rm) && holdsB ⟨0, 0, 0⟩ ra) && holdsB ⟨0, 1, 1⟩ sub) && holdsB (immS 11 sub) imm) && holdsB ⟨0, 0, 0⟩ imm2) && holdsB ⟨0, 0, 0⟩ amount) && holdsB ⟨0, 0, 0⟩ shift) && holdsB ⟨0, 0, 0⟩ cond) && (((!flags && !minus) && !not) && !link)) && (sys == 0)) && true) := rfl
  rw [e2]
  rw [adr_in]; simp only [holds_zero, holds_in, Bool.and_true, Bool.true_and]
  ac_rfl
theorem re12 (sub rd rn rm ra imm imm2 amount shift cond sys : Int) (flags minus not link : Bool) : rightR ⟨12, sub, rd, rn, rm, ra, imm, imm2, amount, shift, cond, sys, flags, minus, not, link⟩ = rightB ⟨12, sub, rd, rn, rm, ra, imm, imm2, amount, shift, cond, sys, flags, minus, not, link⟩ := by
  have e1 : rightR ⟨12, sub, rd, rn, rm, ra, imm, imm2, amount, shift, cond, sys, flags, minus, not, link⟩ = ((((rd == 0) && ((rn == 0) && ((rm == 0) && ((ra == 0) && ((imm2 == 0) && ((amount == 0) && ((shift == 0) && ((sub == 0) && ((cond == 0) && ((sys == 0) && true)))))))))) && (!flags && (!minus && (!not && true)))) && (stepB imm 4 (-134217728) 134217724)) := rfl
  rw [e1]
  have e2 : rightB ⟨12, sub, rd, rn, rm, ra, imm, imm2, amount, shift, cond, sys, flags, minus, not, link⟩ = ((((((((((((holdsB ⟨0, 0, 0⟩ rd && holdsB ⟨0, 0, 0⟩ rn) && holdsB ⟨0, 0, 0⟩ rm) && holdsB ⟨0, 0, 0⟩ ra) && holdsB ⟨0, 0, 0⟩ sub) && holdsB ⟨(-134217728), 134217724, 4⟩ imm) && holdsB ⟨0, 0, 0⟩ imm2) && holdsB ⟨0, 0, 0⟩ amount) && holdsB ⟨0, 0, 0⟩ shift) && holdsB ⟨0, 0, 0⟩ cond) && (((!flags && !minus) && !not) && true)) && (sys == 0)) && true) := rfl
  rw [e2]
  simp only [holds_zero, holds_in, holds_step (-134217728) 134217724 4, Bool.and_true, Bool.true_and]
  ac_rfl
theorem re13 (sub rd rn rm ra imm imm2 amount shift cond sys : Int) (flags minus not link : Bool) : rightR ⟨13, sub, rd, rn, rm, ra, imm, imm2, amount, shift, cond, sys, flags, minus, not, link⟩ = rightB ⟨13, sub, rd, rn, rm, ra, imm, imm2, amount, shift, cond, sys, flags, minus, not, link⟩ := by
  have e1 : rightR ⟨13, sub, rd, rn, rm, ra, imm, imm2, amount, shift, cond, sys, flags, minus, not, link⟩ = ((((rd == 0) && ((rn == 0) && ((rm == 0) && ((ra == 0) && ((imm2 == 0) && ((amount == 0) && ((shift == 0) && ((sub == 0) && ((sys == 0) && true))))))))) && (!flags && (!minus && (!not && (!link && true))))) && (inB cond 0 15 && stepB imm 4 (-1048576) 1048572)) := rfl
  rw [e1]
  have e2 : rightB ⟨13, sub, rd, rn, rm, ra, imm, imm2, amount, shift, cond, sys, flags, minus, not, link⟩ = ((((((((((((holdsB ⟨0, 0, 0⟩ rd && holdsB ⟨0, 0, 0⟩ rn) && holdsB ⟨0, 0, 0⟩ rm) && holdsB ⟨0, 0, 0⟩ ra) && holdsB ⟨0, 0, 0⟩ sub) && holdsB ⟨(-1048576), 1048572, 4⟩ imm) && holdsB ⟨0, 0, 0⟩ imm2) && holdsB ⟨0, 0, 0⟩ amount) && holdsB ⟨0, 0, 0⟩ shift) && holdsB ⟨0, 15, 1⟩ cond) && (((!flags && !minus) && !not) && !link)) && (sys == 0)) && true) := rfl
  rw [e2]
  simp only [holds_zero, holds_in, holds_step (-1048576) 1048572 4, Bool.and_true, Bool.true_and]
  ac_rfl
theorem re14 (sub rd rn rm ra imm imm2 amount shift cond sys : Int) (flags minus not link : Bool) : rightR ⟨14, sub, rd, rn, rm, ra, imm, imm2, amount, shift, cond, sys, flags, minus, not, link⟩ = rightB ⟨14, sub, rd, rn, rm, ra, imm, imm2, amount, shift, cond, sys, flags, minus, not, link⟩ := by
  have e1 : rightR ⟨14, sub, rd, rn, rm, ra, imm, imm2, amount, shift, cond, sys, flags, minus, not, link⟩ = (((inB rd 0 31 && ((rn == 0) && ((rm == 0) && ((ra == 0) && ((imm2 == 0) && ((amount == 0) && ((shift == 0) && ((sub == 0) && ((cond == 0) && ((sys == 0) && true)))))))))) && (!flags && (!minus && (!link && true)))) && (stepB imm 4 (-1048576) 1048572)) := rfl
  rw [e1]
  have e2 : rightB ⟨14, sub, rd, rn, rm, ra, imm, imm2, amount, shift, cond, sys, flags, minus, not, link⟩ = ((((((((((((holdsB ⟨0, 31, 1⟩ rd && holdsB ⟨0, 0, 0⟩ rn) && holdsB ⟨0, 0, 0⟩ rm) && holdsB ⟨0, 0, 0⟩ ra) && holdsB ⟨0, 0, 0⟩ sub) && holdsB ⟨(-1048576), 1048572, 4⟩ imm) && holdsB ⟨0, 0, 0⟩ imm2) && holdsB ⟨0, 0, 0⟩ amount) && holdsB ⟨0, 0, 0⟩ shift) && holdsB ⟨0, 0, 0⟩ cond) && (((!flags && !minus) && true) && !link)) && (sys == 0)) && true) := rfl
  rw [e2]
  simp only [holds_zero, holds_in, holds_step (-1048576) 1048572 4, Bool.and_true, Bool.true_and]
  ac_rfl
theorem re15 (sub rd rn rm ra imm imm2 amount shift cond sys : Int) (flags minus not link : Bool) : rightR ⟨15, sub, rd, rn, rm, ra, imm, imm2, amount, shift, cond, sys, flags, minus, not, link⟩ = rightB ⟨15, sub, rd, rn, rm, ra, imm, imm2, amount, shift, cond, sys, flags, minus, not, link⟩ := by
  have e1 : rightR ⟨15, sub, rd, rn, rm, ra, imm, imm2, amount, shift, cond, sys, flags, minus, not, link⟩ = (((inB rd 0 31 && ((rn == 0) && ((rm == 0) && ((ra == 0) && ((imm2 == 0) && ((shift == 0) && ((sub == 0) && ((cond == 0) && ((sys == 0) && true))))))))) && (!flags && (!minus && (!link && true)))) && (inB amount 0 63 && stepB imm 4 (-32768) 32764)) := rfl
  rw [e1]
  have e2 : rightB ⟨15, sub, rd, rn, rm, ra, imm, imm2, amount, shift, cond, sys, flags, minus, not, link⟩ = ((((((((((((holdsB ⟨0, 31, 1⟩ rd && holdsB ⟨0, 0, 0⟩ rn) && holdsB ⟨0, 0, 0⟩ rm) && holdsB ⟨0, 0, 0⟩ ra) && holdsB ⟨0, 0, 0⟩ sub) && holdsB ⟨(-32768), 32764, 4⟩ imm) && holdsB ⟨0, 0, 0⟩ imm2) && holdsB ⟨0, 63, 1⟩ amount) && holdsB ⟨0, 0, 0⟩ shift) && holdsB ⟨0, 0, 0⟩ cond) && (((!flags && !minus) && true) && !link)) && (sys == 0)) && true) := rfl
  rw [e2]
  simp only [holds_zero, holds_in, holds_step (-32768) 32764 4, Bool.and_true, Bool.true_and]
  ac_rfl
theorem re16 (sub rd rn rm ra imm imm2 amount shift cond sys : Int) (flags minus not link : Bool) : rightR ⟨16, sub, rd, rn, rm, ra, imm, imm2, amount, shift, cond, sys, flags, minus, not, link⟩ = rightB ⟨16, sub, rd, rn, rm, ra, imm, imm2, amount, shift, cond, sys, flags, minus, not, link⟩ := by
  have e1 : rightR ⟨16, sub, rd, rn, rm, ra, imm, imm2, amount, shift, cond, sys, flags, minus, not, link⟩ = ((((rd == 0) && (inB rn 0 31 && ((rm == 0) && ((ra == 0) && ((imm == 0) && ((imm2 == 0) && ((amount == 0) && ((shift == 0) && ((cond == 0) && ((sys == 0) && true)))))))))) && (!flags && (!minus && (!not && (!link && true))))) && (inB sub 0 2)) := rfl
  rw [e1]
  have e2 : rightB ⟨16, sub, rd, rn, rm, ra, imm, imm2, amount, shift, cond, sys, flags, minus, not, link⟩ = ((((((((((((holdsB ⟨0, 0, 0⟩ rd && holdsB ⟨0, 31, 1⟩ rn) && holdsB ⟨0, 0, 0⟩ rm) && holdsB ⟨0, 0, 0⟩ ra) && holdsB ⟨0, 2, 1⟩ sub) && holdsB ⟨0, 0, 0⟩ imm) && holdsB ⟨0, 0, 0⟩ imm2) && holdsB ⟨0, 0, 0⟩ amount) && holdsB ⟨0, 0, 0⟩ shift) && holdsB ⟨0, 0, 0⟩ cond) && (((!flags && !minus) && !not) && !link)) && (sys == 0)) && true) := rfl
  rw [e2]
  simp only [holds_zero, holds_in, Bool.and_true, Bool.true_and]
  ac_rfl
theorem re17 (sub rd rn rm ra imm imm2 amount shift cond sys : Int) (flags minus not link : Bool) : rightR ⟨17, sub, rd, rn, rm, ra, imm, imm2, amount, shift, cond, sys, flags, minus, not, link⟩ = rightB ⟨17, sub, rd, rn, rm, ra, imm, imm2, amount, shift, cond, sys, flags, minus, not, link⟩ := by
  have e1 : rightR ⟨17, sub, rd, rn, rm, ra, imm, imm2, amount, shift, cond, sys, flags, minus, not, link⟩ = (((inB rd 0 31 && (inB rn 0 31 && ((rm == 0) && ((ra == 0) && ((imm2 == 0) && ((amount == 0) && ((shift == 0) && ((sub == 0) && ((cond == 0) && ((sys == 0) && true)))))))))) && (!flags && (!minus && (!not && (!link && true))))) && (stepB imm 8 0 32760)) := rfl
  rw [e1]
  have e2 : rightB ⟨17, sub, rd, rn, rm, ra, imm, imm2, amount, shift, cond, sys, flags, minus, not, link⟩ = ((((((((((((holdsB ⟨0, 31, 1⟩ rd && holdsB ⟨0, 31, 1⟩ rn) && holdsB ⟨0, 0, 0⟩ rm) && holdsB ⟨0, 0, 0⟩ ra) && holdsB ⟨0, 0, 0⟩ sub) && holdsB ⟨0, 32760, 8⟩ imm) && holdsB ⟨0, 0, 0⟩ imm2) && holdsB ⟨0, 0, 0⟩ amount) && holdsB ⟨0, 0, 0⟩ shift) && holdsB ⟨0, 0, 0⟩ cond) && (((!flags && !minus) && !not) && !link)) && (sys == 0)) && true) := rfl
  rw [e2]
  simp only [holds_zero, holds_in, holds_step (0) 32760 8, Bool.and_true, Bool.true_and]
  ac_rfl
theorem re18 (sub rd rn rm ra imm imm2 amount shift cond sys : Int) (flags minus not link : Bool) : rightR ⟨18, sub, rd, rn, rm, ra, imm, imm2, amount, shift, cond, sys, flags, minus, not, link⟩ = rightB ⟨18, sub, rd, rn, rm, ra, imm, imm2, amount, shift, cond, sys, flags, minus, not, link⟩ := by
  have e1 : rightR ⟨18, sub, rd, rn, rm, ra, imm, imm2, amount, shift, cond, sys, flags, minus, not, link⟩ = (((inB rd 0 31 && (inB rn 0 31 && ((rm == 0) && ((ra == 0) && ((imm2 == 0) && ((amount == 0) && ((shift == 0) && ((sub == 0) && ((cond == 0) && ((sys == 0) && true)))))))))) && (!flags && (!minus && (!not && (!link && true))))) && (stepB imm 8 0 32760)) := rfl
  rw [e1]
  have e2 : rightB ⟨18, sub, rd, rn, rm, ra, imm, imm2, amount, shift, cond, sys, flags, minus, not, link⟩ = ((((((((((((holdsB ⟨0, 31, 1⟩ rd && holdsB ⟨0, 31, 1⟩ rn) && holdsB ⟨0, 0, 0⟩ rm) && holdsB ⟨0, 0, 0⟩ ra) && holdsB ⟨0, 0, 0⟩ sub) && holdsB ⟨0, 32760, 8⟩ imm) && holdsB ⟨0, 0, 0⟩ imm2) && holdsB ⟨0, 0, 0⟩ amount) && holdsB ⟨0, 0, 0⟩ shift) && holdsB ⟨0, 0, 0⟩ cond) && (((!flags && !minus) && !not) && !link)) && (sys == 0)) && true) := rfl
  rw [e2]
  simp only [holds_zero, holds_in, holds_step (0) 32760 8, Bool.and_true, Bool.true_and]
  ac_rfl
theorem re19 (sub rd rn rm ra imm imm2 amount shift cond sys : Int) (flags minus not link : Bool) : rightR ⟨19, sub, rd, rn, rm, ra, imm, imm2, amount, shift, cond, sys, flags, minus, not, link⟩ = rightB ⟨19, sub, rd, rn, rm, ra, imm, imm2, amount, shift, cond, sys, flags, minus, not, link⟩ := by
  have e1 : rightR ⟨19, sub, rd, rn, rm, ra, imm, imm2, amount, shift, cond, sys, flags, minus, not, link⟩ = (((inB rd 0 31 && (inB rn 0 31 && (inB rm 0 31 && ((ra == 0) && ((imm == 0) && ((imm2 == 0) && ((shift == 0) && ((sub == 0) && ((cond == 0) && ((sys == 0) && true)))))))))) && (!flags && (!minus && (!not && (!link && true))))) && ((amount == 0 || amount == 3))) := rfl
  rw [e1]
  have e2 : rightB ⟨19, sub, rd, rn, rm, ra, imm, imm2, amount, shift, cond, sys, flags, minus, not, link⟩ = ((((((((((((holdsB ⟨0, 31, 1⟩ rd && holdsB ⟨0, 31, 1⟩ rn) && holdsB ⟨0, 31, 1⟩ rm) && holdsB ⟨0, 0, 0⟩ ra) && holdsB ⟨0, 0, 0⟩ sub) && holdsB ⟨0, 0, 0⟩ imm) && holdsB ⟨0, 0, 0⟩ imm2) && holdsB ⟨0, 3, 3⟩ amount) && holdsB ⟨0, 0, 0⟩ shift) && holdsB ⟨0, 0, 0⟩ cond) && (((!flags && !minus) && !not) && !link)) && (sys == 0)) && true) := rfl
  rw [e2]
  rw [← step_two (n := amount) (u := 3) (by decide)]; simp only [holds_zero, holds_in, holds_step (0) 3 3, Bool.and_true, Bool.true_and]
  ac_rfl
theorem re20 (sub rd rn rm ra imm imm2 amount shift cond sys : Int) (flags minus not link : Bool) : rightR ⟨20, sub, rd, rn, rm, ra, imm, imm2, amount, shift, cond, sys, flags, minus, not, link⟩ = rightB ⟨20, sub, rd, rn, rm, ra, imm, imm2, amount, shift, cond, sys, flags, minus, not, link⟩ := by
  have e1 : rightR ⟨20, sub, rd, rn, rm, ra, imm, imm2, amount, shift, cond, sys, flags, minus, not, link⟩ = (((inB rd 0 31 && (inB rn 0 31 && (inB rm 0 31 && ((ra == 0) && ((imm == 0) && ((imm2 == 0) && ((shift == 0) && ((sub == 0) && ((cond == 0) && ((sys == 0) && true)))))))))) && (!flags && (!minus && (!not && (!link && true))))) && ((amount == 0 || amount == 3))) := rfl
  rw [e1]
  have e2 : rightB ⟨20, sub, rd, rn, rm, ra, imm, imm2, amount, shift, cond, sys, flags, minus, not, link⟩ = ((((((((((((holdsB ⟨0, 31, 1⟩ rd && holdsB ⟨0, 31, 1⟩ rn) && holdsB ⟨0, 31, 1⟩ rm) && holdsB ⟨0, 0, 0⟩ ra) && holdsB ⟨0, 0, 0⟩ sub) && holdsB ⟨0, 0, 0⟩ imm) && holdsB ⟨0, 0, 0⟩ imm2) && holdsB ⟨0, 3, 3⟩ amount) && holdsB ⟨0, 0, 0⟩ shift) && holdsB ⟨0, 0, 0⟩ cond) && (((!flags && !minus) && !not) && !link)) && (sys == 0)) && true) := rfl
  rw [e2]
  rw [← step_two (n := amount) (u := 3) (by decide)]; simp only [holds_zero, holds_in, holds_step (0) 3 3, Bool.and_true, Bool.true_and]
  ac_rfl
theorem re21 (sub rd rn rm ra imm imm2 amount shift cond sys : Int) (flags minus not link : Bool) : rightR ⟨21, sub, rd, rn, rm, ra, imm, imm2, amount, shift, cond, sys, flags, minus, not, link⟩ = rightB ⟨21, sub, rd, rn, rm, ra, imm, imm2, amount, shift, cond, sys, flags, minus, not, link⟩ := by
  have e1 : rightR ⟨21, sub, rd, rn, rm, ra, imm, imm2, amount, shift, cond, sys, flags, minus, not, link⟩ = (((inB rd 0 31 && (inB rn 0 31 && ((rm == 0) && ((ra == 0) && ((imm == 0) && ((imm2 == 0) && ((amount == 0) && ((shift == 0) && ((cond == 0) && ((sys == 0) && true)))))))))) && (!flags && (!minus && (!not && (!link && true))))) && (inB sub 0 1)) := rfl
  rw [e1]
  have e2 : rightB ⟨21, sub, rd, rn, rm, ra, imm, imm2, amount, shift, cond, sys, flags, minus, not, link⟩ = ((((((((((((holdsB ⟨0, 31, 1⟩ rd && holdsB ⟨0, 31, 1⟩ rn) && holdsB ⟨0, 0, 0⟩ rm) && holdsB ⟨0, 0, 0⟩ ra) && holdsB ⟨0, 1, 1⟩ sub) && holdsB ⟨0, 0, 0⟩ imm) && holdsB ⟨0, 0, 0⟩ imm2) && holdsB ⟨0, 0, 0⟩ amount) && holdsB ⟨0, 0, 0⟩ shift) && holdsB ⟨0, 0, 0⟩ cond) && (((!flags && !minus) && !not) && !link)) && (sys == 0)) && true) := rfl
  rw [e2]
  simp only [holds_zero, holds_in, Bool.and_true, Bool.true_and]
  ac_rfl
theorem re22 (sub rd rn rm ra imm imm2 amount shift cond sys : Int) (flags minus not link : Bool) : rightR ⟨22, sub, rd, rn, rm, ra, imm, imm2, amount, shift, cond, sys, flags, minus, not, link⟩ = rightB ⟨22, sub, rd, rn, rm, ra, imm, imm2, amount, shift, cond, sys, flags, minus, not, link⟩ := by
  have e1 : rightR ⟨22, sub, rd, rn, rm, ra, imm, imm2, amount, shift, cond, sys, flags, minus, not, link⟩ = (((inB rd 0 31 && (inB rn 0 31 && ((rm == 0) && ((ra == 0) && ((imm == 0) && ((imm2 == 0) && ((amount == 0) && ((shift == 0) && ((sub == 0) && ((cond == 0) && ((sys == 0) && true))))))))))) && (!flags && (!minus && (!not && (!link && true))))) && (true)) := rfl
  rw [e1]
  have e2 : rightB ⟨22, sub, rd, rn, rm, ra, imm, imm2, amount, shift, cond, sys, flags, minus, not, link⟩ = ((((((((((((holdsB ⟨0, 31, 1⟩ rd && holdsB ⟨0, 31, 1⟩ rn) && holdsB ⟨0, 0, 0⟩ rm) && holdsB ⟨0, 0, 0⟩ ra) && holdsB ⟨0, 0, 0⟩ sub) && holdsB ⟨0, 0, 0⟩ imm) && holdsB ⟨0, 0, 0⟩ imm2) && holdsB ⟨0, 0, 0⟩ amount) && holdsB ⟨0, 0, 0⟩ shift) && holdsB ⟨0, 0, 0⟩ cond) && (((!flags && !minus) && !not) && !link)) && (sys == 0)) && true) := rfl
  rw [e2]
  simp only [holds_zero, holds_in, Bool.and_true, Bool.true_and]
  ac_rfl
theorem re23 (sub rd rn rm ra imm imm2 amount shift cond sys : Int) (flags minus not link : Bool) : rightR ⟨23, sub, rd, rn, rm, ra, imm, imm2, amount, shift, cond, sys, flags, minus, not, link⟩ = rightB ⟨23, sub, rd, rn, rm, ra, imm, imm2, amount, shift, cond, sys, flags, minus, not, link⟩ := by
  have e1 : rightR ⟨23, sub, rd, rn, rm, ra, imm, imm2, amount, shift, cond, sys, flags, minus, not, link⟩ = (((inB rd 0 31 && (inB rn 0 31 && ((rm == 0) && ((ra == 0) && ((imm == 0) && ((imm2 == 0) && ((amount == 0) && ((shift == 0) && ((cond == 0) && ((sys == 0) && true)))))))))) && (!flags && (!minus && (!not && (!link && true))))) && (inB sub 0 1)) := rfl
  rw [e1]
  have e2 : rightB ⟨23, sub, rd, rn, rm, ra, imm, imm2, amount, shift, cond, sys, flags, minus, not, link⟩ = ((((((((((((holdsB ⟨0, 31, 1⟩ rd && holdsB ⟨0, 31, 1⟩ rn) && holdsB ⟨0, 0, 0⟩ rm) && holdsB ⟨0, 0, 0⟩ ra) && holdsB ⟨0, 1, 1⟩ sub) && holdsB ⟨0, 0, 0⟩ imm) && holdsB ⟨0, 0, 0⟩ imm2) && holdsB ⟨0, 0, 0⟩ amount) && holdsB ⟨0, 0, 0⟩ shift) && holdsB ⟨0, 0, 0⟩ cond) && (((!flags && !minus) && !not) && !link)) && (sys == 0)) && true) := rfl
  rw [e2]
  simp only [holds_zero, holds_in, Bool.and_true, Bool.true_and]
  ac_rfl
theorem re24 (sub rd rn rm ra imm imm2 amount shift cond sys : Int) (flags minus not link : Bool) : rightR ⟨24, sub, rd, rn, rm, ra, imm, imm2, amount, shift, cond, sys, flags, minus, not, link⟩ = rightB ⟨24, sub, rd, rn, rm, ra, imm, imm2, amount, shift, cond, sys, flags, minus, not, link⟩ := by
  have e1 : rightR ⟨24, sub, rd, rn, rm, ra, imm, imm2, amount, shift, cond, sys, flags, minus, not, link⟩ = (((inB rd 0 31 && (inB rn 0 31 && (inB rm 0 31 && ((ra == 0) && ((imm == 0) && ((imm2 == 0) && ((amount == 0) && ((shift == 0) && ((cond == 0) && ((sys == 0) && true)))))))))) && (!flags && (!minus && (!not && (!link && true))))) && (inB sub 0 1)) := rfl
  rw [e1]
  have e2 : rightB ⟨24, sub, rd, rn, rm, ra, imm, imm2, amount, shift, cond, sys, flags, minus, not, link⟩ = ((((((((((((holdsB ⟨0, 31, 1⟩ rd && holdsB ⟨0, 31, 1⟩ rn) && holdsB ⟨0, 31, 1⟩ rm) && holdsB ⟨0, 0, 0⟩ ra) && holdsB ⟨0, 1, 1⟩ sub) && holdsB ⟨0, 0, 0⟩ imm) && holdsB ⟨0, 0, 0⟩ imm2) && holdsB ⟨0, 0, 0⟩ amount) && holdsB ⟨0, 0, 0⟩ shift) && holdsB ⟨0, 0, 0⟩ cond) && (((!flags && !minus) && !not) && !link)) && (sys == 0)) && true) := rfl
  rw [e2]
  simp only [holds_zero, holds_in, Bool.and_true, Bool.true_and]
  ac_rfl
theorem re25 (sub rd rn rm ra imm imm2 amount shift cond sys : Int) (flags minus not link : Bool) : rightR ⟨25, sub, rd, rn, rm, ra, imm, imm2, amount, shift, cond, sys, flags, minus, not, link⟩ = rightB ⟨25, sub, rd, rn, rm, ra, imm, imm2, amount, shift, cond, sys, flags, minus, not, link⟩ := by
  have e1 : rightR ⟨25, sub, rd, rn, rm, ra, imm, imm2, amount, shift, cond, sys, flags, minus, not, link⟩ = ((((rd == 0) && ((rn == 0) && ((rm == 0) && ((ra == 0) && ((imm == 0) && ((imm2 == 0) && ((amount == 0) && ((shift == 0) && ((sub == 0) && ((cond == 0) && ((sys == 0) && true))))))))))) && (!flags && (!minus && (!not && (!link && true))))) && (true)) := rfl
  rw [e1]
  have e2 : rightB ⟨25, sub, rd, rn, rm, ra, imm, imm2, amount, shift, cond, sys, flags, minus, not, link⟩ = ((((((((((((holdsB ⟨0, 0, 0⟩ rd && holdsB ⟨0, 0, 0⟩ rn) && holdsB ⟨0, 0, 0⟩ rm) && holdsB ⟨0, 0, 0⟩ ra) && holdsB ⟨0, 0, 0⟩ sub) && holdsB ⟨0, 0, 0⟩ imm) && holdsB ⟨0, 0, 0⟩ imm2) && holdsB ⟨0, 0, 0⟩ amount) && holdsB ⟨0, 0, 0⟩ shift) && holdsB ⟨0, 0, 0⟩ cond) && (((!flags && !minus) && !not) && !link)) && (sys == 0)) && true) := rfl
  rw [e2]
  simp only [holds_zero, holds_in, Bool.and_true, Bool.true_and]
  ac_rfl
theorem re26 (sub rd rn rm ra imm imm2 amount shift cond sys : Int) (flags minus not link : Bool) : rightR ⟨26, sub, rd, rn, rm, ra, imm, imm2, amount, shift, cond, sys, flags, minus, not, link⟩ = rightB ⟨26, sub, rd, rn, rm, ra, imm, imm2, amount, shift, cond, sys, flags, minus, not, link⟩ := by
  have e1 : rightR ⟨26, sub, rd, rn, rm, ra, imm, imm2, amount, shift, cond, sys, flags, minus, not, link⟩ = ((((rd == 0) && ((rn == 0) && ((rm == 0) && ((ra == 0) && ((imm2 == 0) && ((amount == 0) && ((shift == 0) && ((cond == 0) && ((sys == 0) && true))))))))) && (!flags && (!minus && (!not && (!link && true))))) && (inB sub 0 1 && inB imm 1 3)) := rfl
  rw [e1]
  have e2 : rightB ⟨26, sub, rd, rn, rm, ra, imm, imm2, amount, shift, cond, sys, flags, minus, not, link⟩ = ((((((((((((holdsB ⟨0, 0, 0⟩ rd && holdsB ⟨0, 0, 0⟩ rn) && holdsB ⟨0, 0, 0⟩ rm) && holdsB ⟨0, 0, 0⟩ ra) && holdsB ⟨0, 1, 1⟩ sub) && holdsB ⟨1, 3, 1⟩ imm) && holdsB ⟨0, 0, 0⟩ imm2) && holdsB ⟨0, 0, 0⟩ amount) && holdsB ⟨0, 0, 0⟩ shift) && holdsB ⟨0, 0, 0⟩ cond) && (((!flags && !minus) && !not) && !link)) && (sys == 0)) && true) := rfl
  rw [e2]
  simp only [holds_zero, holds_in, Bool.and_true, Bool.true_and]
  ac_rfl
theorem re27 (sub rd rn rm ra imm imm2 amount shift cond sys : Int) (flags minus not link : Bool) : rightR ⟨27, sub, rd, rn, rm, ra, imm, imm2, amount, shift, cond, sys, flags, minus, not, link⟩ = rightB ⟨27, sub, rd, rn, rm, ra, imm, imm2, amount, shift, cond, sys, flags, minus, not, link⟩ := by
  have e1 : rightR ⟨27, sub, rd, rn, rm, ra, imm, imm2, amount, shift, cond, sys, flags, minus, not, link⟩ = ((((rd == 0) && ((rn == 0) && ((rm == 0) && ((ra == 0) && ((imm == 0) && ((imm2 == 0) && ((amount == 0) && ((shift == 0) && ((sub == 0) && ((cond == 0) && ((sys == 0) && true))))))))))) && (!flags && (!minus && (!not && (!link && true))))) && (true)) := rfl
  rw [e1]
  have e2 : rightB ⟨27, sub, rd, rn, rm, ra, imm, imm2, amount, shift, cond, sys, flags, minus, not, link⟩ = ((((((((((((holdsB ⟨0, 0, 0⟩ rd && holdsB ⟨0, 0, 0⟩ rn) && holdsB ⟨0, 0, 0⟩ rm) && holdsB ⟨0, 0, 0⟩ ra) && holdsB ⟨0, 0, 0⟩ sub) && holdsB ⟨0, 0, 0⟩ imm) && holdsB ⟨0, 0, 0⟩ imm2) && holdsB ⟨0, 0, 0⟩ amount) && holdsB ⟨0, 0, 0⟩ shift) && holdsB ⟨0, 0, 0⟩ cond) && (((!flags && !minus) && !not) && !link)) && (sys == 0)) && true) := rfl
  rw [e2]
  simp only [holds_zero, holds_in, Bool.and_true, Bool.true_and]
  ac_rfl
theorem re28 (sub rd rn rm ra imm imm2 amount shift cond sys : Int) (flags minus not link : Bool) : rightR ⟨28, sub, rd, rn, rm, ra, imm, imm2, amount, shift, cond, sys, flags, minus, not, link⟩ = rightB ⟨28, sub, rd, rn, rm, ra, imm, imm2, amount, shift, cond, sys, flags, minus, not, link⟩ := by
  have e1 : rightR ⟨28, sub, rd, rn, rm, ra, imm, imm2, amount, shift, cond, sys, flags, minus, not, link⟩ = (((inB rd 0 31 && ((rn == 0) && ((rm == 0) && ((ra == 0) && ((imm == 0) && ((imm2 == 0) && ((amount == 0) && ((shift == 0) && ((sub == 0) && ((cond == 0) && ((sys == 0) && true))))))))))) && (!flags && (!minus && (!not && (!link && true))))) && (true)) := rfl
  rw [e1]
  have e2 : rightB ⟨28, sub, rd, rn, rm, ra, imm, imm2, amount, shift, cond, sys, flags, minus, not, link⟩ = ((((((((((((holdsB ⟨0, 31, 1⟩ rd && holdsB ⟨0, 0, 0⟩ rn) && holdsB ⟨0, 0, 0⟩ rm) && holdsB ⟨0, 0, 0⟩ ra) && holdsB ⟨0, 0, 0⟩ sub) && holdsB ⟨0, 0, 0⟩ imm) && holdsB ⟨0, 0, 0⟩ imm2) && holdsB ⟨0, 0, 0⟩ amount) && holdsB ⟨0, 0, 0⟩ shift) && holdsB ⟨0, 0, 0⟩ cond) && (((!flags && !minus) && !not) && !link)) && (sys == 0)) && true) := rfl
  rw [e2]
  simp only [holds_zero, holds_in, Bool.and_true, Bool.true_and]
  ac_rfl
theorem re29 (sub rd rn rm ra imm imm2 amount shift cond sys : Int) (flags minus not link : Bool) : rightR ⟨29, sub, rd, rn, rm, ra, imm, imm2, amount, shift, cond, sys, flags, minus, not, link⟩ = rightB ⟨29, sub, rd, rn, rm, ra, imm, imm2, amount, shift, cond, sys, flags, minus, not, link⟩ := by
  have e1 : rightR ⟨29, sub, rd, rn, rm, ra, imm, imm2, amount, shift, cond, sys, flags, minus, not, link⟩ = ((((rd == 0) && ((rn == 0) && ((rm == 0) && ((ra == 0) && ((imm == 0) && ((imm2 == 0) && ((amount == 0) && ((shift == 0) && ((sub == 0) && ((cond == 0) && ((sys == 0) && true))))))))))) && (!flags && (!minus && (!not && (!link && true))))) && (true)) := rfl
  rw [e1]
  have e2 : rightB ⟨29, sub, rd, rn, rm, ra, imm, imm2, amount, shift, cond, sys, flags, minus, not, link⟩ = ((((((((((((holdsB ⟨0, 0, 0⟩ rd && holdsB ⟨0, 0, 0⟩ rn) && holdsB ⟨0, 0, 0⟩ rm) && holdsB ⟨0, 0, 0⟩ ra) && holdsB ⟨0, 0, 0⟩ sub) && holdsB ⟨0, 0, 0⟩ imm) && holdsB ⟨0, 0, 0⟩ imm2) && holdsB ⟨0, 0, 0⟩ amount) && holdsB ⟨0, 0, 0⟩ shift) && holdsB ⟨0, 0, 0⟩ cond) && (((!flags && !minus) && !not) && !link)) && (sys == 0)) && true) := rfl
  rw [e2]
  simp only [holds_zero, holds_in, Bool.and_true, Bool.true_and]
  ac_rfl
theorem re30 (sub rd rn rm ra imm imm2 amount shift cond sys : Int) (flags minus not link : Bool) : rightR ⟨30, sub, rd, rn, rm, ra, imm, imm2, amount, shift, cond, sys, flags, minus, not, link⟩ = rightB ⟨30, sub, rd, rn, rm, ra, imm, imm2, amount, shift, cond, sys, flags, minus, not, link⟩ := by
  have e1 : rightR ⟨30, sub, rd, rn, rm, ra, imm, imm2, amount, shift, cond, sys, flags, minus, not, link⟩ = (((inB rd 0 31 && ((rn == 0) && ((rm == 0) && ((ra == 0) && ((imm == 0) && ((imm2 == 0) && ((amount == 0) && ((shift == 0) && ((sub == 0) && ((cond == 0) && ((sys == 0) && true))))))))))) && (!flags && (!minus && (!not && (!link && true))))) && (true)) := rfl
  rw [e1]
  have e2 : rightB ⟨30, sub, rd, rn, rm, ra, imm, imm2, amount, shift, cond, sys, flags, minus, not, link⟩ = ((((((((((((holdsB ⟨0, 31, 1⟩ rd && holdsB ⟨0, 0, 0⟩ rn) && holdsB ⟨0, 0, 0⟩ rm) && holdsB ⟨0, 0, 0⟩ ra) && holdsB ⟨0, 0, 0⟩ sub) && holdsB ⟨0, 0, 0⟩ imm) && holdsB ⟨0, 0, 0⟩ imm2) && holdsB ⟨0, 0, 0⟩ amount) && holdsB ⟨0, 0, 0⟩ shift) && holdsB ⟨0, 0, 0⟩ cond) && (((!flags && !minus) && !not) && !link)) && (sys == 0)) && true) := rfl
  rw [e2]
  simp only [holds_zero, holds_in, Bool.and_true, Bool.true_and]
  ac_rfl
theorem re31 (sub rd rn rm ra imm imm2 amount shift cond sys : Int) (flags minus not link : Bool) : rightR ⟨31, sub, rd, rn, rm, ra, imm, imm2, amount, shift, cond, sys, flags, minus, not, link⟩ = rightB ⟨31, sub, rd, rn, rm, ra, imm, imm2, amount, shift, cond, sys, flags, minus, not, link⟩ := by
  have e1 : rightR ⟨31, sub, rd, rn, rm, ra, imm, imm2, amount, shift, cond, sys, flags, minus, not, link⟩ = (((inB rd 0 31 && ((rn == 0) && ((rm == 0) && ((ra == 0) && ((imm == 0) && ((imm2 == 0) && ((amount == 0) && ((shift == 0) && ((sub == 0) && ((cond == 0) && true)))))))))) && (!flags && (!minus && (!not && (!link && true))))) && (sysB sys)) := rfl
  rw [e1]
  have e2 : rightB ⟨31, sub, rd, rn, rm, ra, imm, imm2, amount, shift, cond, sys, flags, minus, not, link⟩ = ((((((((((((holdsB ⟨0, 31, 1⟩ rd && holdsB ⟨0, 0, 0⟩ rn) && holdsB ⟨0, 0, 0⟩ rm) && holdsB ⟨0, 0, 0⟩ ra) && holdsB ⟨0, 0, 0⟩ sub) && holdsB ⟨0, 0, 0⟩ imm) && holdsB ⟨0, 0, 0⟩ imm2) && holdsB ⟨0, 0, 0⟩ amount) && holdsB ⟨0, 0, 0⟩ shift) && holdsB ⟨0, 0, 0⟩ cond) && (((!flags && !minus) && !not) && !link)) && sysB sys) && true) := rfl
  rw [e2]
  simp only [holds_zero, holds_in, Bool.and_true, Bool.true_and]
  ac_rfl
theorem re32 (sub rd rn rm ra imm imm2 amount shift cond sys : Int) (flags minus not link : Bool) : rightR ⟨32, sub, rd, rn, rm, ra, imm, imm2, amount, shift, cond, sys, flags, minus, not, link⟩ = rightB ⟨32, sub, rd, rn, rm, ra, imm, imm2, amount, shift, cond, sys, flags, minus, not, link⟩ := by
  have e1 : rightR ⟨32, sub, rd, rn, rm, ra, imm, imm2, amount, shift, cond, sys, flags, minus, not, link⟩ = (((inB rd 0 31 && ((rn == 0) && ((rm == 0) && ((ra == 0) && ((imm == 0) && ((imm2 == 0) && ((amount == 0) && ((shift == 0) && ((sub == 0) && ((cond == 0) && true)))))))))) && (!flags && (!minus && (!not && (!link && true))))) && (sysB sys)) := rfl
  rw [e1]
  have e2 : rightB ⟨32, sub, rd, rn, rm, ra, imm, imm2, amount, shift, cond, sys, flags, minus, not, link⟩ = ((((((((((((holdsB ⟨0, 31, 1⟩ rd && holdsB ⟨0, 0, 0⟩ rn) && holdsB ⟨0, 0, 0⟩ rm) && holdsB ⟨0, 0, 0⟩ ra) && holdsB ⟨0, 0, 0⟩ sub) && holdsB ⟨0, 0, 0⟩ imm) && holdsB ⟨0, 0, 0⟩ imm2) && holdsB ⟨0, 0, 0⟩ amount) && holdsB ⟨0, 0, 0⟩ shift) && holdsB ⟨0, 0, 0⟩ cond) && (((!flags && !minus) && !not) && !link)) && sysB sys) && true) := rfl
  rw [e2]
  simp only [holds_zero, holds_in, Bool.and_true, Bool.true_and]
  ac_rfl
theorem re33 (sub rd rn rm ra imm imm2 amount shift cond sys : Int) (flags minus not link : Bool) : rightR ⟨33, sub, rd, rn, rm, ra, imm, imm2, amount, shift, cond, sys, flags, minus, not, link⟩ = rightB ⟨33, sub, rd, rn, rm, ra, imm, imm2, amount, shift, cond, sys, flags, minus, not, link⟩ := by
  have e1 : rightR ⟨33, sub, rd, rn, rm, ra, imm, imm2, amount, shift, cond, sys, flags, minus, not, link⟩ = ((((rd == 0) && ((rn == 0) && ((rm == 0) && ((ra == 0) && ((imm2 == 0) && ((amount == 0) && ((shift == 0) && ((cond == 0) && ((sys == 0) && true))))))))) && (!flags && (!minus && (!not && (!link && true))))) && (inB sub 0 1 && inB imm 0 15)) := rfl
  rw [e1]
  have e2 : rightB ⟨33, sub, rd, rn, rm, ra, imm, imm2, amount, shift, cond, sys, flags, minus, not, link⟩ = ((((((((((((holdsB ⟨0, 0, 0⟩ rd && holdsB ⟨0, 0, 0⟩ rn) && holdsB ⟨0, 0, 0⟩ rm) && holdsB ⟨0, 0, 0⟩ ra) && holdsB ⟨0, 1, 1⟩ sub) && holdsB ⟨0, 15, 1⟩ imm) && holdsB ⟨0, 0, 0⟩ imm2) && holdsB ⟨0, 0, 0⟩ amount) && holdsB ⟨0, 0, 0⟩ shift) && holdsB ⟨0, 0, 0⟩ cond) && (((!flags && !minus) && !not) && !link)) && (sys == 0)) && true) := rfl
  rw [e2]
  simp only [holds_zero, holds_in, Bool.and_true, Bool.true_and]
  ac_rfl
theorem re34 (sub rd rn rm ra imm imm2 amount shift cond sys : Int) (flags minus not link : Bool) : rightR ⟨34, sub, rd, rn, rm, ra, imm, imm2, amount, shift, cond, sys, flags, minus, not, link⟩ = rightB ⟨34, sub, rd, rn, rm, ra, imm, imm2, amount, shift, cond, sys, flags, minus, not, link⟩ := by
  have e1 : rightR ⟨34, sub, rd, rn, rm, ra, imm, imm2, amount, shift, cond, sys, flags, minus, not, link⟩ = ((((rd == 0) && ((rn == 0) && ((rm == 0) && ((ra == 0) && ((imm2 == 0) && ((amount == 0) && ((shift == 0) && ((sub == 0) && ((cond == 0) && ((sys == 0) && true)))))))))) && (!flags && (!minus && (!not && (!link && true))))) && (inB imm 0 65535)) := rfl
  rw [e1]
  have e2 : rightB ⟨34, sub, rd, rn, rm, ra, imm, imm2, amount, shift, cond, sys, flags, minus, not, link⟩ = ((((((((((((holdsB ⟨0, 0, 0⟩ rd && holdsB ⟨0, 0, 0⟩ rn) && holdsB ⟨0, 0, 0⟩ rm) && holdsB ⟨0, 0, 0⟩ ra) && holdsB ⟨0, 0, 0⟩ sub) && holdsB ⟨0, 65535, 1⟩ imm) && holdsB ⟨0, 0, 0⟩ imm2) && holdsB ⟨0, 0, 0⟩ amount) && holdsB ⟨0, 0, 0⟩ shift) && holdsB ⟨0, 0, 0⟩ cond) && (((!flags && !minus) && !not) && !link)) && (sys == 0)) && true) := rfl
  rw [e2]
  simp only [holds_zero, holds_in, Bool.and_true, Bool.true_and]
  ac_rfl
theorem re35 (sub rd rn rm ra imm imm2 amount shift cond sys : Int) (flags minus not link : Bool) : rightR ⟨35, sub, rd, rn, rm, ra, imm, imm2, amount, shift, cond, sys, flags, minus, not, link⟩ = rightB ⟨35, sub, rd, rn, rm, ra, imm, imm2, amount, shift, cond, sys, flags, minus, not, link⟩ := by
  have e1 : rightR ⟨35, sub, rd, rn, rm, ra, imm, imm2, amount, shift, cond, sys, flags, minus, not, link⟩ = ((((rd == 0) && ((rn == 0) && ((rm == 0) && ((ra == 0) && ((imm2 == 0) && ((amount == 0) && ((shift == 0) && ((sub == 0) && ((cond == 0) && ((sys == 0) && true)))))))))) && (!flags && (!minus && (!not && (!link && true))))) && (inB imm 0 65535)) := rfl
  rw [e1]
  have e2 : rightB ⟨35, sub, rd, rn, rm, ra, imm, imm2, amount, shift, cond, sys, flags, minus, not, link⟩ = ((((((((((((holdsB ⟨0, 0, 0⟩ rd && holdsB ⟨0, 0, 0⟩ rn) && holdsB ⟨0, 0, 0⟩ rm) && holdsB ⟨0, 0, 0⟩ ra) && holdsB ⟨0, 0, 0⟩ sub) && holdsB ⟨0, 65535, 1⟩ imm) && holdsB ⟨0, 0, 0⟩ imm2) && holdsB ⟨0, 0, 0⟩ amount) && holdsB ⟨0, 0, 0⟩ shift) && holdsB ⟨0, 0, 0⟩ cond) && (((!flags && !minus) && !not) && !link)) && (sys == 0)) && true) := rfl
  rw [e2]
  simp only [holds_zero, holds_in, Bool.and_true, Bool.true_and]
  ac_rfl
theorem re36 (sub rd rn rm ra imm imm2 amount shift cond sys : Int) (flags minus not link : Bool) : rightR ⟨36, sub, rd, rn, rm, ra, imm, imm2, amount, shift, cond, sys, flags, minus, not, link⟩ = rightB ⟨36, sub, rd, rn, rm, ra, imm, imm2, amount, shift, cond, sys, flags, minus, not, link⟩ := by
  have e1 : rightR ⟨36, sub, rd, rn, rm, ra, imm, imm2, amount, shift, cond, sys, flags, minus, not, link⟩ = ((((rd == 0) && ((rn == 0) && ((rm == 0) && ((ra == 0) && ((imm == 0) && ((imm2 == 0) && ((amount == 0) && ((shift == 0) && ((sub == 0) && ((cond == 0) && ((sys == 0) && true))))))))))) && (!flags && (!minus && (!not && (!link && true))))) && (true)) := rfl
  rw [e1]
  have e2 : rightB ⟨36, sub, rd, rn, rm, ra, imm, imm2, amount, shift, cond, sys, flags, minus, not, link⟩ = ((((((((((((holdsB ⟨0, 0, 0⟩ rd && holdsB ⟨0, 0, 0⟩ rn) && holdsB ⟨0, 0, 0⟩ rm) && holdsB ⟨0, 0, 0⟩ ra) && holdsB ⟨0, 0, 0⟩ sub) && holdsB ⟨0, 0, 0⟩ imm) && holdsB ⟨0, 0, 0⟩ imm2) && holdsB ⟨0, 0, 0⟩ amount) && holdsB ⟨0, 0, 0⟩ shift) && holdsB ⟨0, 0, 0⟩ cond) && (((!flags && !minus) && !not) && !link)) && (sys == 0)) && true) := rfl
  rw [e2]
  simp only [holds_zero, holds_in, Bool.and_true, Bool.true_and]
  ac_rfl
theorem re37 (sub rd rn rm ra imm imm2 amount shift cond sys : Int) (flags minus not link : Bool) : rightR ⟨37, sub, rd, rn, rm, ra, imm, imm2, amount, shift, cond, sys, flags, minus, not, link⟩ = rightB ⟨37, sub, rd, rn, rm, ra, imm, imm2, amount, shift, cond, sys, flags, minus, not, link⟩ := by
  have e1 : rightR ⟨37, sub, rd, rn, rm, ra, imm, imm2, amount, shift, cond, sys, flags, minus, not, link⟩ = ((((rd == 0) && ((rn == 0) && ((rm == 0) && ((ra == 0) && ((imm2 == 0) && ((amount == 0) && ((shift == 0) && ((sub == 0) && ((cond == 0) && ((sys == 0) && true)))))))))) && (!flags && (!minus && (!not && (!link && true))))) && (inB imm 0 5)) := rfl
  rw [e1]
  have e2 : rightB ⟨37, sub, rd, rn, rm, ra, imm, imm2, amount, shift, cond, sys, flags, minus, not, link⟩ = ((((((((((((holdsB ⟨0, 0, 0⟩ rd && holdsB ⟨0, 0, 0⟩ rn) && holdsB ⟨0, 0, 0⟩ rm) && holdsB ⟨0, 0, 0⟩ ra) && holdsB ⟨0, 0, 0⟩ sub) && holdsB ⟨0, 5, 1⟩ imm) && holdsB ⟨0, 0, 0⟩ imm2) && holdsB ⟨0, 0, 0⟩ amount) && holdsB ⟨0, 0, 0⟩ shift) && holdsB ⟨0, 0, 0⟩ cond) && (((!flags && !minus) && !not) && !link)) && (sys == 0)) && true) := rfl
  rw [e2]
  simp only [holds_zero, holds_in, Bool.and_true, Bool.true_and]
  ac_rfl
theorem shape_out {op : Int} (h : ¬ (1 ≤ op ∧ op ≤ 37)) : shapeS op = ⟨#[]⟩ := by
  unfold shapeS
  simp only [show (op == 1) = false from beq_eq_false_iff_ne.2 (by omega), show (op == 2) = false from beq_eq_false_iff_ne.2 (by omega), show (op == 3) = false from beq_eq_false_iff_ne.2 (by omega), show (op == 4) = false from beq_eq_false_iff_ne.2 (by omega), show (op == 5) = false from beq_eq_false_iff_ne.2 (by omega), show (op == 6) = false from beq_eq_false_iff_ne.2 (by omega), show (op == 7) = false from beq_eq_false_iff_ne.2 (by omega), show (op == 8) = false from beq_eq_false_iff_ne.2 (by omega), show (op == 9) = false from beq_eq_false_iff_ne.2 (by omega), show (op == 10) = false from beq_eq_false_iff_ne.2 (by omega), show (op == 11) = false from beq_eq_false_iff_ne.2 (by omega), show (op == 12) = false from beq_eq_false_iff_ne.2 (by omega), show (op == 13) = false from beq_eq_false_iff_ne.2 (by omega), show (op == 14) = false from beq_eq_false_iff_ne.2 (by omega), show (op == 15) = false from beq_eq_false_iff_ne.2 (by omega), show (op == 16) = false from beq_eq_false_iff_ne.2 (by omega), show (op == 17) = false from beq_eq_false_iff_ne.2 (by omega), show (op == 18) = false from beq_eq_false_iff_ne.2 (by omega), show (op == 19) = false from beq_eq_false_iff_ne.2 (by omega), show (op == 20) = false from beq_eq_false_iff_ne.2 (by omega), show (op == 21) = false from beq_eq_false_iff_ne.2 (by omega), show (op == 22) = false from beq_eq_false_iff_ne.2 (by omega), show (op == 23) = false from beq_eq_false_iff_ne.2 (by omega), show (op == 24) = false from beq_eq_false_iff_ne.2 (by omega), show (op == 25) = false from beq_eq_false_iff_ne.2 (by omega), show (op == 26) = false from beq_eq_false_iff_ne.2 (by omega), show (op == 27) = false from beq_eq_false_iff_ne.2 (by omega), show (op == 28) = false from beq_eq_false_iff_ne.2 (by omega), show (op == 29) = false from beq_eq_false_iff_ne.2 (by omega), show (op == 30) = false from beq_eq_false_iff_ne.2 (by omega), show (op == 31) = false from beq_eq_false_iff_ne.2 (by omega), show (op == 32) = false from beq_eq_false_iff_ne.2 (by omega), show (op == 33) = false from beq_eq_false_iff_ne.2 (by omega), show (op == 34) = false from beq_eq_false_iff_ne.2 (by omega), show (op == 35) = false from beq_eq_false_iff_ne.2 (by omega), show (op == 36) = false from beq_eq_false_iff_ne.2 (by omega), show (op == 37) = false from beq_eq_false_iff_ne.2 (by omega), Bool.or_false, cond_false]
theorem re_out {i : Ins} (h : ¬ (1 ≤ i.op ∧ i.op ≤ 37)) : rightR i = false ∧ rightB i = false := by
  constructor
  · unfold rightR clearB; rw [shape_out h]; rfl
  · unfold rightB
    rcases (by omega : ¬ 1 ≤ i.op ∨ ¬ i.op ≤ 37) with h | h
    · rw [decide_eq_false h]; rfl
    · rw [decide_eq_false (p := i.op ≤ 37) h, Bool.and_false]; rfl
theorem right_eq (i : Ins) : rightR i = rightB i := by
  by_cases h : 1 ≤ i.op ∧ i.op ≤ 37
  · obtain ⟨op, sub, rd, rn, rm, ra, imm, imm2, amount, shift, cond, sys, flags, minus, not, link⟩ := i
    have h : 1 ≤ op ∧ op ≤ 37 := h
    rcases (by omega : op = 1 ∨ op = 2 ∨ op = 3 ∨ op = 4 ∨ op = 5 ∨ op = 6 ∨ op = 7 ∨ op = 8 ∨ op = 9 ∨ op = 10 ∨ op = 11 ∨ op = 12 ∨ op = 13 ∨ op = 14 ∨ op = 15 ∨ op = 16 ∨ op = 17 ∨ op = 18 ∨ op = 19 ∨ op = 20 ∨ op = 21 ∨ op = 22 ∨ op = 23 ∨ op = 24 ∨ op = 25 ∨ op = 26 ∨ op = 27 ∨ op = 28 ∨ op = 29 ∨ op = 30 ∨ op = 31 ∨ op = 32 ∨ op = 33 ∨ op = 34 ∨ op = 35 ∨ op = 36 ∨ op = 37) with rfl | rfl | rfl | rfl | rfl | rfl | rfl | rfl | rfl | rfl | rfl | rfl | rfl | rfl | rfl | rfl | rfl | rfl | rfl | rfl | rfl | rfl | rfl | rfl | rfl | rfl | rfl | rfl | rfl | rfl | rfl | rfl | rfl | rfl | rfl | rfl | rfl
    · exact re1 ..
    · exact re2 ..
    · exact re3 ..
    · exact re4 ..
    · exact re5 ..
    · exact re6 ..
    · exact re7 ..
    · exact re8 ..
    · exact re9 ..
    · exact re10 ..
    · exact re11 ..
    · exact re12 ..
    · exact re13 ..
    · exact re14 ..
    · exact re15 ..
    · exact re16 ..
    · exact re17 ..
    · exact re18 ..
    · exact re19 ..
    · exact re20 ..
    · exact re21 ..
    · exact re22 ..
    · exact re23 ..
    · exact re24 ..
    · exact re25 ..
    · exact re26 ..
    · exact re27 ..
    · exact re28 ..
    · exact re29 ..
    · exact re30 ..
    · exact re31 ..
    · exact re32 ..
    · exact re33 ..
    · exact re34 ..
    · exact re35 ..
    · exact re36 ..
    · exact re37 ..
  · rw [(re_out h).1, (re_out h).2]
end Go.Proofs.Ytcmilajlngnibaa
/- Whether an instruction is right, as the document's own answer to chapter 2 tells it: the contract, for every instruction. -/
namespace Go.Proofs.Ytcmilajlngnibaa
open Go.RowKit Go.Rel
set_option linter.unusedVariables false

set_option maxRecDepth 4000 in
set_option maxHeartbeats 4000000 in
theorem rrO (op sub rd rn rm ra imm imm2 amount shift cond sys : Int) (flags minus not link : Bool) (w : World) (ho : ¬ (1 ≤ op ∧ op ≤ 37)) :
    Calls Try.prog 20 #[(⟨op, sub, rd, rn, rm, ra, imm, imm2, amount, shift, cond, sys, flags, minus, not, link⟩ : Ins).val] w fun e w' => e = .returned (.bool (rightR ⟨op, sub, rd, rn, rm, ra, imm, imm2, amount, shift, cond, sys, flags, minus, not, link⟩)) ∧ Below w.heap.size w w' := by
  have BX := heap_alloc_new w (.cells #[vI op, vI sub, vI rd, vI rn, vI rm, vI ra, vI imm, vI imm2, vI amount, vI shift, vI cond, vI sys, .bool flags, .bool minus, .bool not, .bool link] 25)
  have HB := below_alloc w (.cells #[vI op, vI sub, vI rd, vI rn, vI rm, vI ra, vI imm, vI imm2, vI amount, vI shift, vI cond, vI sys, .bool flags, .bool minus, .bool not, .bool link] 25)
  have hR : Hid (rightR ⟨op, sub, rd, rn, rm, ra, imm, imm2, amount, shift, cond, sys, flags, minus, not, link⟩ = (clearB ⟨op, sub, rd, rn, rm, ra, imm, imm2, amount, shift, cond, sys, flags, minus, not, link⟩ && false)) := by show _ = _; rw [(re_out (i := ⟨op, sub, rd, rn, rm, ra, imm, imm2, amount, shift, cond, sys, flags, minus, not, link⟩) ho).1, Bool.and_false]
  have HC := rclear_c op sub rd rn rm ra imm imm2 amount shift cond sys flags minus not link
  replace HC := show Hid _ from HC
  generalize rightR ⟨op, sub, rd, rn, rm, ra, imm, imm2, amount, shift, cond, sys, flags, minus, not, link⟩ = R at hR ⊢
  have hcl : clearB ⟨op, sub, rd, rn, rm, ra, imm, imm2, amount, shift, cond, sys, flags, minus, not, link⟩ = false := by unfold clearB; rw [shape_out ho]; rfl
  rw [hcl] at hR HC
  clear hcl
  go_enter Try.func20, Try.ntmps20
  go_wp2_with (first | (go_at_call 57; refine (HC.out _).mono ?_; rintro e w1 ⟨rfl, hb⟩; replace BX : w1.heap[w.heap.size]? = some (.cells #[vI op, vI sub, vI rd, vI rn, vI rm, vI ra, vI imm, vI imm2, vI amount, vI shift, vI cond, vI sys, .bool flags, .bool minus, .bool not, .bool link] 25) := (hb.block _ (Array.getElem?_eq_some_iff.1 BX).1).trans BX; replace HB : Hid (Below w.heap.size w w1) := HB.trans (hb.mono HB.size); clear hb HC; dsimp only; have c0 := cell_in BX 0 (v := vI op) rfl; have c1 := cell_in BX 1 (v := vI sub) rfl; have c2 := cell_in BX 2 (v := vI rd) rfl; have c3 := cell_in BX 3 (v := vI rn) rfl; have c4 := cell_in BX 4 (v := vI rm) rfl; have c5 := cell_in BX 5 (v := vI ra) rfl; have c6 := cell_in BX 6 (v := vI imm) rfl; have c7 := cell_in BX 7 (v := vI imm2) rfl; have c8 := cell_in BX 8 (v := vI amount) rfl; have c9 := cell_in BX 9 (v := vI shift) rfl; have c10 := cell_in BX 10 (v := vI cond) rfl; have c11 := cell_in BX 11 (v := vI sys) rfl; have c12 := cell_in BX 12 (v := .bool flags) rfl; have c13 := cell_in BX 13 (v := .bool minus) rfl; have c14 := cell_in BX 14 (v := .bool not) rfl; have c15 := cell_in BX 15 (v := .bool link) rfl; clear BX) | ((with_reducible refine wpList_load_if rfl 25 _ rfl w.heap.size rfl 25 _ (0, 0) _ BX Try.underlying25 rfl (infoK _ rfl) ?_); simp only [Act.put, List.setIfInBounds_toArray, List.set_cons_succ, List.set_cons_zero]))
  go_ret
  exact ⟨ret_bool (by rw [hR.out]; rfl), HB.out⟩
theorem rright_c (i : Ins) (w : World) :
    Calls Try.prog 20 #[i.val] w fun e w' => e = .returned (.bool (rightB i)) ∧ Below w.heap.size w w' := by
  rw [← right_eq]
  obtain ⟨op, sub, rd, rn, rm, ra, imm, imm2, amount, shift, cond, sys, flags, minus, not, link⟩ := i
  by_cases h : 1 ≤ op ∧ op ≤ 37
  · rcases (by omega : op = 1 ∨ op = 2 ∨ op = 3 ∨ op = 4 ∨ op = 5 ∨ op = 6 ∨ op = 7 ∨ op = 8 ∨ op = 9 ∨ op = 10 ∨ op = 11 ∨ op = 12 ∨ op = 13 ∨ op = 14 ∨ op = 15 ∨ op = 16 ∨ op = 17 ∨ op = 18 ∨ op = 19 ∨ op = 20 ∨ op = 21 ∨ op = 22 ∨ op = 23 ∨ op = 24 ∨ op = 25 ∨ op = 26 ∨ op = 27 ∨ op = 28 ∨ op = 29 ∨ op = 30 ∨ op = 31 ∨ op = 32 ∨ op = 33 ∨ op = 34 ∨ op = 35 ∨ op = 36 ∨ op = 37) with rfl | rfl | rfl | rfl | rfl | rfl | rfl | rfl | rfl | rfl | rfl | rfl | rfl | rfl | rfl | rfl | rfl | rfl | rfl | rfl | rfl | rfl | rfl | rfl | rfl | rfl | rfl | rfl | rfl | rfl | rfl | rfl | rfl | rfl | rfl | rfl | rfl
    · exact rr1 _ _ _ _ _ _ _ _ _ _ _ _ _ _ _ _
    · exact rr2 _ _ _ _ _ _ _ _ _ _ _ _ _ _ _ _
    · exact rr3 _ _ _ _ _ _ _ _ _ _ _ _ _ _ _ _
    · exact rr4 _ _ _ _ _ _ _ _ _ _ _ _ _ _ _ _
    · exact rr5 _ _ _ _ _ _ _ _ _ _ _ _ _ _ _ _
    · exact rr6 _ _ _ _ _ _ _ _ _ _ _ _ _ _ _ _
    · exact rr7 _ _ _ _ _ _ _ _ _ _ _ _ _ _ _ _
    · exact rr8 _ _ _ _ _ _ _ _ _ _ _ _ _ _ _ _
    · exact rr9 _ _ _ _ _ _ _ _ _ _ _ _ _ _ _ _
    · exact rr10 _ _ _ _ _ _ _ _ _ _ _ _ _ _ _ _
    · exact rr11 _ _ _ _ _ _ _ _ _ _ _ _ _ _ _ _
    · exact rr12 _ _ _ _ _ _ _ _ _ _ _ _ _ _ _ _
    · exact rr13 _ _ _ _ _ _ _ _ _ _ _ _ _ _ _ _
    · exact rr14 _ _ _ _ _ _ _ _ _ _ _ _ _ _ _ _
    · exact rr15 _ _ _ _ _ _ _ _ _ _ _ _ _ _ _ _
    · exact rr16 _ _ _ _ _ _ _ _ _ _ _ _ _ _ _ _
    · exact rr17 _ _ _ _ _ _ _ _ _ _ _ _ _ _ _ _
    · exact rr18 _ _ _ _ _ _ _ _ _ _ _ _ _ _ _ _
    · exact rr19 _ _ _ _ _ _ _ _ _ _ _ _ _ _ _ _
    · exact rr20 _ _ _ _ _ _ _ _ _ _ _ _ _ _ _ _
    · exact rr21 _ _ _ _ _ _ _ _ _ _ _ _ _ _ _ _
    · exact rr22 _ _ _ _ _ _ _ _ _ _ _ _ _ _ _ _
    · exact rr23 _ _ _ _ _ _ _ _ _ _ _ _ _ _ _ _
    · exact rr24 _ _ _ _ _ _ _ _ _ _ _ _ _ _ _ _
    · exact rr25 _ _ _ _ _ _ _ _ _ _ _ _ _ _ _ _
    · exact rr26 _ _ _ _ _ _ _ _ _ _ _ _ _ _ _ _
    · exact rr27 _ _ _ _ _ _ _ _ _ _ _ _ _ _ _ _
    · exact rr28 _ _ _ _ _ _ _ _ _ _ _ _ _ _ _ _
    · exact rr29 _ _ _ _ _ _ _ _ _ _ _ _ _ _ _ _
    · exact rr30 _ _ _ _ _ _ _ _ _ _ _ _ _ _ _ _
    · exact rr31 _ _ _ _ _ _ _ _ _ _ _ _ _ _ _ _
    · exact rr32 _ _ _ _ _ _ _ _ _ _ _ _ _ _ _ _
    · exact rr33 _ _ _ _ _ _ _ _ _ _ _ _ _ _ _ _
    · exact rr34 _ _ _ _ _ _ _ _ _ _ _ _ _ _ _ _
    · exact rr35 _ _ _ _ _ _ _ _ _ _ _ _ _ _ _ _
    · exact rr36 _ _ _ _ _ _ _ _ _ _ _ _ _ _ _ _
    · exact rr37 _ _ _ _ _ _ _ _ _ _ _ _ _ _ _ _
  · exact rrO _ _ _ _ _ _ _ _ _ _ _ _ _ _ _ _ _ h
end Go.Proofs.Ytcmilajlngnibaa
