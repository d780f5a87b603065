/- Whether an instruction is right: the document's own answer is the program's, for every instruction: plain. -/
import Derived.Test.YtjmdgfimmjodjaaGreatDoorV09
namespace Go.Proofs.YtjmdgfimmjodjaaGreatDoor
open Go.RowKit
set_option linter.unusedSimpArgs false

theorem r_holds_in (lo hi n : Int) : holdsB ⟨lo, hi, 1⟩ n = inB n lo hi := by
  unfold holdsB inB
  simp only [Int.tmod_one, beq_self_eq_true, Bool.or_true, Bool.and_true]
theorem holds_zero (n : Int) : holdsB ⟨0, 0, 0⟩ n = (n == 0) := by
  rw [Bool.eq_iff_iff]
  simp only [holdsB, Bool.and_eq_true, Bool.or_eq_true, decide_eq_true_eq, beq_iff_eq]
  constructor
  · rintro ⟨⟨a, b⟩, _⟩; omega
  · rintro rfl; exact ⟨⟨by decide, by decide⟩, .inl rfl⟩
theorem holds_step (lo hi u n : Int) : holdsB ⟨lo, hi, u⟩ n = stepB n u lo hi := by
  rw [Bool.eq_iff_iff]
  simp only [holdsB, stepB, Bool.and_eq_true, Bool.or_eq_true, decide_eq_true_eq, beq_iff_eq]
  constructor
  · rintro ⟨⟨a, b⟩, c⟩
    refine ⟨⟨?_, a⟩, b⟩
    rcases c with rfl | c
    · exact Int.zero_tmod _
    · exact c
  · rintro ⟨⟨c, a⟩, b⟩; exact ⟨⟨a, b⟩, .inr c⟩
theorem step_two {n u : Int} (hu : 1 ≤ u) : stepB n u 0 u = (n == 0 || n == u) := by
  rw [Bool.eq_iff_iff]
  simp only [stepB, Bool.and_eq_true, Bool.or_eq_true, decide_eq_true_eq, beq_iff_eq]
  constructor
  · rintro ⟨⟨c, a⟩, b⟩
    obtain ⟨d, rfl⟩ := Int.dvd_of_tmod_eq_zero c
    rcases (by omega : d ≤ 0 ∨ d = 1 ∨ 2 ≤ d) with h | rfl | h
    · left
      have := Int.mul_le_mul_of_nonneg_left h (show 0 ≤ u by omega)
      omega
    · right; omega
    · have := Int.mul_le_mul_of_nonneg_left h (show 0 ≤ u by omega)
      omega
  · rintro (rfl | rfl)
    · exact ⟨⟨Int.zero_tmod _, by decide⟩, by omega⟩
    · exact ⟨⟨Int.tmod_self, by omega⟩, by omega⟩
theorem sub_three (n : Int) : (n == 0 || n == 2 || n == 3) = (inB n 0 3 && n != 1) := by
  rw [Bool.eq_iff_iff]
  simp only [inB, Bool.and_eq_true, Bool.or_eq_true, decide_eq_true_eq, beq_iff_eq, bne_iff_ne]
  omega
theorem mask_in (a b c : Int) : (maskE a b c == 0) = (inB a 0 1 && inB b 0 63 && inB c 0 63 && (maskE a b c == 0)) := by
  by_cases h : argB a b c = true
  · obtain ⟨⟨a1, a2⟩, ⟨a3, a4⟩, a5, a6⟩ := arg_of h
    unfold inB
    simp [a1, a2, a3, a4, a5, a6]
  · have h : argB a b c = false := by simpa using h
    rw [(mask_arg h).2]; simp
theorem adr_in (s n : Int) : (s == 0 && inB n (-1048576) 1048575 || s == 1 && stepB n 4096 (-4294967296) 4294963200) = (inB s 0 1 && holdsB (immS 11 s) n) := by
  by_cases h0 : s = 0
  · subst h0
    rw [show immS 11 0 = ⟨-1048576, 1048575, 1⟩ from rfl, r_holds_in]
    simp [inB]
  · by_cases h1 : s = 1
    · subst h1
      rw [show immS 11 1 = ⟨-4294967296, 4294963200, 4096⟩ from rfl, holds_step]
      simp [inB]
    · have : inB s 0 1 = false := by
        unfold inB
        rw [← decide_eq_true_eq (p := s = 0)] at h0
        simp only [Bool.and_eq_false_iff, decide_eq_false_iff_not]
        simp at h0
        omega
      rw [this]
      simp [h0, h1]
theorem re1 (S D N M A I J U F C Y : Int) (G X O L : Bool) : rightR ⟨1, S, D, N, M, A, I, J, U, F, C, Y, G, X, O, L⟩ = rightB ⟨1, S, D, N, M, A, I, J, U, F, C, Y, G, X, O, L⟩ := by
  have e1 : rightR ⟨1, S, D, N, M, A, I, J, U, F, C, Y, G, X, O, L⟩ = (((inB D 0 31 && (inB N 0 31 && ((M == 0) && ((A == 0) && ((J == 0) && ((F == 0) && ((S == 0) && ((C == 0) && ((Y == 0) && true))))))))) && (!O && (!L && true))) && (inB I 0 4095 && (U == 0 || U == 12))) := rfl
  rw [e1]
  have e2 : rightB ⟨1, S, D, N, M, A, I, J, U, F, C, Y, G, X, O, L⟩ = ((((((((((((holdsB ⟨0, 31, 1⟩ D && holdsB ⟨0, 31, 1⟩ N) && holdsB ⟨0, 0, 0⟩ M) && holdsB ⟨0, 0, 0⟩ A) && holdsB ⟨0, 0, 0⟩ S) && holdsB ⟨0, 4095, 1⟩ I) && holdsB ⟨0, 0, 0⟩ J) && holdsB ⟨0, 12, 12⟩ U) && holdsB ⟨0, 0, 0⟩ F) && holdsB ⟨0, 0, 0⟩ C) && (((true && true) && !O) && !L)) && (Y == 0)) && true) := rfl
  rw [e2]
  rw [← step_two (n := U) (u := 12) (by decide)]; simp only [holds_zero, r_holds_in, holds_step (0) 12 12, Bool.and_true, Bool.true_and]
  ac_rfl
theorem re2 (S D N M A I J U F C Y : Int) (G X O L : Bool) : rightR ⟨2, S, D, N, M, A, I, J, U, F, C, Y, G, X, O, L⟩ = rightB ⟨2, S, D, N, M, A, I, J, U, F, C, Y, G, X, O, L⟩ := by
  have e1 : rightR ⟨2, S, D, N, M, A, I, J, U, F, C, Y, G, X, O, L⟩ = (((inB D 0 31 && (inB N 0 31 && (inB M 0 31 && ((A == 0) && ((I == 0) && ((J == 0) && ((S == 0) && ((C == 0) && ((Y == 0) && true))))))))) && (!O && (!L && true))) && (inB F 0 2 && inB U 0 63)) := rfl
  rw [e1]
  have e2 : rightB ⟨2, S, D, N, M, A, I, J, U, F, C, Y, G, X, O, L⟩ = ((((((((((((holdsB ⟨0, 31, 1⟩ D && holdsB ⟨0, 31, 1⟩ N) && holdsB ⟨0, 31, 1⟩ M) && holdsB ⟨0, 0, 0⟩ A) && holdsB ⟨0, 0, 0⟩ S) && holdsB ⟨0, 0, 0⟩ I) && holdsB ⟨0, 0, 0⟩ J) && holdsB ⟨0, 63, 1⟩ U) && holdsB ⟨0, 2, 1⟩ F) && holdsB ⟨0, 0, 0⟩ C) && (((true && true) && !O) && !L)) && (Y == 0)) && true) := rfl
  rw [e2]
  simp only [holds_zero, r_holds_in, Bool.and_true, Bool.true_and]
  ac_rfl
theorem re3 (S D N M A I J U F C Y : Int) (G X O L : Bool) : rightR ⟨3, S, D, N, M, A, I, J, U, F, C, Y, G, X, O, L⟩ = rightB ⟨3, S, D, N, M, A, I, J, U, F, C, Y, G, X, O, L⟩ := by
  have e1 : rightR ⟨3, S, D, N, M, A, I, J, U, F, C, Y, G, X, O, L⟩ = (((inB D 0 31 && (inB N 0 31 && (inB M 0 31 && ((A == 0) && ((I == 0) && ((J == 0) && ((C == 0) && ((Y == 0) && true)))))))) && (!X && (!L && true))) && (inB S 0 2 && (!G || S == 0) && inB F 0 3 && inB U 0 63)) := rfl
  rw [e1]
  have e2 : rightB ⟨3, S, D, N, M, A, I, J, U, F, C, Y, G, X, O, L⟩ = ((((((((((((holdsB ⟨0, 31, 1⟩ D && holdsB ⟨0, 31, 1⟩ N) && holdsB ⟨0, 31, 1⟩ M) && holdsB ⟨0, 0, 0⟩ A) && holdsB ⟨0, 2, 1⟩ S) && holdsB ⟨0, 0, 0⟩ I) && holdsB ⟨0, 0, 0⟩ J) && holdsB ⟨0, 63, 1⟩ U) && holdsB ⟨0, 3, 1⟩ F) && holdsB ⟨0, 0, 0⟩ C) && ((((S == 0 || !G) && !X) && true) && !L)) && (Y == 0)) && true) := rfl
  rw [e2]
  rw [Bool.or_comm (!G)]; simp only [holds_zero, r_holds_in, Bool.and_true, Bool.true_and]
  ac_rfl
theorem re4 (S D N M A I J U F C Y : Int) (G X O L : Bool) : rightR ⟨4, S, D, N, M, A, I, J, U, F, C, Y, G, X, O, L⟩ = rightB ⟨4, S, D, N, M, A, I, J, U, F, C, Y, G, X, O, L⟩ := by
  have e1 : rightR ⟨4, S, D, N, M, A, I, J, U, F, C, Y, G, X, O, L⟩ = (((inB D 0 31 && (inB N 0 31 && ((M == 0) && ((A == 0) && ((F == 0) && ((C == 0) && ((Y == 0) && true))))))) && (!X && (!O && (!L && true)))) && (inB S 0 2 && (!G || S == 0) && maskE U I J == 0)) := rfl
  rw [e1]
  have e2 : rightB ⟨4, S, D, N, M, A, I, J, U, F, C, Y, G, X, O, L⟩ = ((((((((((((holdsB ⟨0, 31, 1⟩ D && holdsB ⟨0, 31, 1⟩ N) && holdsB ⟨0, 0, 0⟩ M) && holdsB ⟨0, 0, 0⟩ A) && holdsB ⟨0, 2, 1⟩ S) && holdsB ⟨0, 63, 1⟩ I) && holdsB ⟨0, 63, 1⟩ J) && holdsB ⟨0, 1, 1⟩ U) && holdsB ⟨0, 0, 0⟩ F) && holdsB ⟨0, 0, 0⟩ C) && ((((S == 0 || !G) && !X) && !O) && !L)) && (Y == 0)) && (maskE U I J == 0)) := rfl
  rw [e2]
  rw [mask_in, Bool.or_comm (!G)]; simp only [holds_zero, r_holds_in, Bool.and_true, Bool.true_and]
  ac_rfl
theorem re5 (S D N M A I J U F C Y : Int) (G X O L : Bool) : rightR ⟨5, S, D, N, M, A, I, J, U, F, C, Y, G, X, O, L⟩ = rightB ⟨5, S, D, N, M, A, I, J, U, F, C, Y, G, X, O, L⟩ := by
  have e1 : rightR ⟨5, S, D, N, M, A, I, J, U, F, C, Y, G, X, O, L⟩ = (((inB D 0 31 && ((N == 0) && ((M == 0) && ((A == 0) && ((J == 0) && ((F == 0) && ((C == 0) && ((Y == 0) && true)))))))) && (!G && (!X && (!O && (!L && true))))) && ((S == 0 || S == 2 || S == 3) && inB I 0 65535 && stepB U 16 0 48)) := rfl
  rw [e1]
  have e2 : rightB ⟨5, S, D, N, M, A, I, J, U, F, C, Y, G, X, O, L⟩ = ((((((((((((holdsB ⟨0, 31, 1⟩ D && holdsB ⟨0, 0, 0⟩ N) && holdsB ⟨0, 0, 0⟩ M) && holdsB ⟨0, 0, 0⟩ A) && holdsB ⟨0, 3, 1⟩ S) && holdsB ⟨0, 65535, 1⟩ I) && holdsB ⟨0, 0, 0⟩ J) && holdsB ⟨0, 48, 16⟩ U) && holdsB ⟨0, 0, 0⟩ F) && holdsB ⟨0, 0, 0⟩ C) && (((!G && !X) && !O) && !L)) && (Y == 0)) && (S != 1)) := rfl
  rw [e2]
  rw [sub_three]; simp only [holds_zero, r_holds_in, holds_step (0) 48 16, Bool.and_true, Bool.true_and]
  ac_rfl
theorem re6 (S D N M A I J U F C Y : Int) (G X O L : Bool) : rightR ⟨6, S, D, N, M, A, I, J, U, F, C, Y, G, X, O, L⟩ = rightB ⟨6, S, D, N, M, A, I, J, U, F, C, Y, G, X, O, L⟩ := by
  have e1 : rightR ⟨6, S, D, N, M, A, I, J, U, F, C, Y, G, X, O, L⟩ = (((inB D 0 31 && (inB N 0 31 && ((M == 0) && ((A == 0) && ((U == 0) && ((F == 0) && ((C == 0) && ((Y == 0) && true)))))))) && (!G && (!X && (!O && (!L && true))))) && ((S == 0 || S == 2) && inB I 0 63 && inB J 0 63)) := rfl
  rw [e1]
  have e2 : rightB ⟨6, S, D, N, M, A, I, J, U, F, C, Y, G, X, O, L⟩ = ((((((((((((holdsB ⟨0, 31, 1⟩ D && holdsB ⟨0, 31, 1⟩ N) && holdsB ⟨0, 0, 0⟩ M) && holdsB ⟨0, 0, 0⟩ A) && holdsB ⟨0, 2, 2⟩ S) && holdsB ⟨0, 63, 1⟩ I) && holdsB ⟨0, 63, 1⟩ J) && holdsB ⟨0, 0, 0⟩ U) && holdsB ⟨0, 0, 0⟩ F) && holdsB ⟨0, 0, 0⟩ C) && (((!G && !X) && !O) && !L)) && (Y == 0)) && true) := rfl
  rw [e2]
  rw [← step_two (n := S) (u := 2) (by decide)]; simp only [holds_zero, r_holds_in, holds_step (0) 2 2, Bool.and_true, Bool.true_and]
  ac_rfl
theorem re7 (S D N M A I J U F C Y : Int) (G X O L : Bool) : rightR ⟨7, S, D, N, M, A, I, J, U, F, C, Y, G, X, O, L⟩ = rightB ⟨7, S, D, N, M, A, I, J, U, F, C, Y, G, X, O, L⟩ := by
  have e1 : rightR ⟨7, S, D, N, M, A, I, J, U, F, C, Y, G, X, O, L⟩ = (((inB D 0 31 && (inB N 0 31 && (inB M 0 31 && ((A == 0) && ((I == 0) && ((J == 0) && ((U == 0) && ((F == 0) && ((C == 0) && ((Y == 0) && true)))))))))) && (!G && (!X && (!O && (!L && true))))) && (inB S 0 3)) := rfl
  rw [e1]
  have e2 : rightB ⟨7, S, D, N, M, A, I, J, U, F, C, Y, G, X, O, L⟩ = ((((((((((((holdsB ⟨0, 31, 1⟩ D && holdsB ⟨0, 31, 1⟩ N) && holdsB ⟨0, 31, 1⟩ M) && holdsB ⟨0, 0, 0⟩ A) && holdsB ⟨0, 3, 1⟩ S) && holdsB ⟨0, 0, 0⟩ I) && holdsB ⟨0, 0, 0⟩ J) && holdsB ⟨0, 0, 0⟩ U) && holdsB ⟨0, 0, 0⟩ F) && holdsB ⟨0, 0, 0⟩ C) && (((!G && !X) && !O) && !L)) && (Y == 0)) && true) := rfl
  rw [e2]
  simp only [holds_zero, r_holds_in, Bool.and_true, Bool.true_and]
  ac_rfl
theorem re8 (S D N M A I J U F C Y : Int) (G X O L : Bool) : rightR ⟨8, S, D, N, M, A, I, J, U, F, C, Y, G, X, O, L⟩ = rightB ⟨8, S, D, N, M, A, I, J, U, F, C, Y, G, X, O, L⟩ := by
  have e1 : rightR ⟨8, S, D, N, M, A, I, J, U, F, C, Y, G, X, O, L⟩ = (((inB D 0 31 && (inB N 0 31 && (inB M 0 31 && (inB A 0 31 && ((I == 0) && ((J == 0) && ((U == 0) && ((F == 0) && ((S == 0) && ((C == 0) && ((Y == 0) && true))))))))))) && (!G && (!O && (!L && true)))) && (true)) := rfl
  rw [e1]
  have e2 : rightB ⟨8, S, D, N, M, A, I, J, U, F, C, Y, G, X, O, L⟩ = ((((((((((((holdsB ⟨0, 31, 1⟩ D && holdsB ⟨0, 31, 1⟩ N) && holdsB ⟨0, 31, 1⟩ M) && holdsB ⟨0, 31, 1⟩ A) && holdsB ⟨0, 0, 0⟩ S) && holdsB ⟨0, 0, 0⟩ I) && holdsB ⟨0, 0, 0⟩ J) && holdsB ⟨0, 0, 0⟩ U) && holdsB ⟨0, 0, 0⟩ F) && holdsB ⟨0, 0, 0⟩ C) && (((!G && true) && !O) && !L)) && (Y == 0)) && true) := rfl
  rw [e2]
  simp only [holds_zero, r_holds_in, Bool.and_true, Bool.true_and]
  ac_rfl
theorem re9 (S D N M A I J U F C Y : Int) (G X O L : Bool) : rightR ⟨9, S, D, N, M, A, I, J, U, F, C, Y, G, X, O, L⟩ = rightB ⟨9, S, D, N, M, A, I, J, U, F, C, Y, G, X, O, L⟩ := by
  have e1 : rightR ⟨9, S, D, N, M, A, I, J, U, F, C, Y, G, X, O, L⟩ = (((inB D 0 31 && (inB N 0 31 && (inB M 0 31 && ((A == 0) && ((I == 0) && ((J == 0) && ((U == 0) && ((F == 0) && ((C == 0) && ((Y == 0) && true)))))))))) && (!G && (!X && (!O && (!L && true))))) && (inB S 0 1)) := rfl
  rw [e1]
  have e2 : rightB ⟨9, S, D, N, M, A, I, J, U, F, C, Y, G, X, O, L⟩ = ((((((((((((holdsB ⟨0, 31, 1⟩ D && holdsB ⟨0, 31, 1⟩ N) && holdsB ⟨0, 31, 1⟩ M) && holdsB ⟨0, 0, 0⟩ A) && holdsB ⟨0, 1, 1⟩ S) && holdsB ⟨0, 0, 0⟩ I) && holdsB ⟨0, 0, 0⟩ J) && holdsB ⟨0, 0, 0⟩ U) && holdsB ⟨0, 0, 0⟩ F) && holdsB ⟨0, 0, 0⟩ C) && (((!G && !X) && !O) && !L)) && (Y == 0)) && true) := rfl
  rw [e2]
  simp only [holds_zero, r_holds_in, Bool.and_true, Bool.true_and]
  ac_rfl
theorem re10 (S D N M A I J U F C Y : Int) (G X O L : Bool) : rightR ⟨10, S, D, N, M, A, I, J, U, F, C, Y, G, X, O, L⟩ = rightB ⟨10, S, D, N, M, A, I, J, U, F, C, Y, G, X, O, L⟩ := by
  have e1 : rightR ⟨10, S, D, N, M, A, I, J, U, F, C, Y, G, X, O, L⟩ = (((inB D 0 31 && (inB N 0 31 && (inB M 0 31 && ((A == 0) && ((I == 0) && ((J == 0) && ((U == 0) && ((F == 0) && ((Y == 0) && true))))))))) && (!G && (!X && (!O && (!L && true))))) && (inB S 0 3 && inB C 0 15)) := rfl
  rw [e1]
  have e2 : rightB ⟨10, S, D, N, M, A, I, J, U, F, C, Y, G, X, O, L⟩ = ((((((((((((holdsB ⟨0, 31, 1⟩ D && holdsB ⟨0, 31, 1⟩ N) && holdsB ⟨0, 31, 1⟩ M) && holdsB ⟨0, 0, 0⟩ A) && holdsB ⟨0, 3, 1⟩ S) && holdsB ⟨0, 0, 0⟩ I) && holdsB ⟨0, 0, 0⟩ J) && holdsB ⟨0, 0, 0⟩ U) && holdsB ⟨0, 0, 0⟩ F) && holdsB ⟨0, 15, 1⟩ C) && (((!G && !X) && !O) && !L)) && (Y == 0)) && true) := rfl
  rw [e2]
  simp only [holds_zero, r_holds_in, Bool.and_true, Bool.true_and]
  ac_rfl
theorem re11 (S D N M A I J U F C Y : Int) (G X O L : Bool) : rightR ⟨11, S, D, N, M, A, I, J, U, F, C, Y, G, X, O, L⟩ = rightB ⟨11, S, D, N, M, A, I, J, U, F, C, Y, G, X, O, L⟩ := by
  have e1 : rightR ⟨11, S, D, N, M, A, I, J, U, F, C, Y, G, X, O, L⟩ = (((inB D 0 31 && ((N == 0) && ((M == 0) && ((A == 0) && ((J == 0) && ((U == 0) && ((F == 0) && ((C == 0) && ((Y == 0) && true))))))))) && (!G && (!X && (!O && (!L && true))))) && ((S == 0 && inB I (-1048576) 1048575 || S == 1 && stepB I 4096 (-4294967296) 4294963200))) := rfl
  rw [e1]
  have e2 : rightB ⟨11, S, D, N, M, A, I, J, U, F, C, Y, G, X, O, L⟩ = ((((((((((((holdsB ⟨0, 31, 1⟩ D && holdsB ⟨0, 0, 0⟩ N) && holdsB ⟨0, 0, 0⟩ M) && holdsB ⟨0, 0, 0⟩ A) && holdsB ⟨0, 1, 1⟩ S) && holdsB (immS 11 S) I) && holdsB ⟨0, 0, 0⟩ J) && holdsB ⟨0, 0, 0⟩ U) && holdsB ⟨0, 0, 0⟩ F) && holdsB ⟨0, 0, 0⟩ C) && (((!G && !X) && !O) && !L)) && (Y == 0)) && true) := rfl
  rw [e2]
  rw [adr_in]; simp only [holds_zero, r_holds_in, Bool.and_true, Bool.true_and]
  ac_rfl
theorem re12 (S D N M A I J U F C Y : Int) (G X O L : Bool) : rightR ⟨12, S, D, N, M, A, I, J, U, F, C, Y, G, X, O, L⟩ = rightB ⟨12, S, D, N, M, A, I, J, U, F, C, Y, G, X, O, L⟩ := by
  have e1 : rightR ⟨12, S, D, N, M, A, I, J, U, F, C, Y, G, X, O, L⟩ = ((((D == 0) && ((N == 0) && ((M == 0) && ((A == 0) && ((J == 0) && ((U == 0) && ((F == 0) && ((S == 0) && ((C == 0) && ((Y == 0) && true)))))))))) && (!G && (!X && (!O && true)))) && (stepB I 4 (-134217728) 134217724)) := rfl
  rw [e1]
  have e2 : rightB ⟨12, S, D, N, M, A, I, J, U, F, C, Y, G, X, O, L⟩ = ((((((((((((holdsB ⟨0, 0, 0⟩ D && holdsB ⟨0, 0, 0⟩ N) && holdsB ⟨0, 0, 0⟩ M) && holdsB ⟨0, 0, 0⟩ A) && holdsB ⟨0, 0, 0⟩ S) && holdsB ⟨(-134217728), 134217724, 4⟩ I) && holdsB ⟨0, 0, 0⟩ J) && holdsB ⟨0, 0, 0⟩ U) && holdsB ⟨0, 0, 0⟩ F) && holdsB ⟨0, 0, 0⟩ C) && (((!G && !X) && !O) && true)) && (Y == 0)) && true) := rfl
  rw [e2]
  simp only [holds_zero, r_holds_in, holds_step (-134217728) 134217724 4, Bool.and_true, Bool.true_and]
  ac_rfl
theorem re13 (S D N M A I J U F C Y : Int) (G X O L : Bool) : rightR ⟨13, S, D, N, M, A, I, J, U, F, C, Y, G, X, O, L⟩ = rightB ⟨13, S, D, N, M, A, I, J, U, F, C, Y, G, X, O, L⟩ := by
  have e1 : rightR ⟨13, S, D, N, M, A, I, J, U, F, C, Y, G, X, O, L⟩ = ((((D == 0) && ((N == 0) && ((M == 0) && ((A == 0) && ((J == 0) && ((U == 0) && ((F == 0) && ((S == 0) && ((Y == 0) && true))))))))) && (!G && (!X && (!O && (!L && true))))) && (inB C 0 15 && stepB I 4 (-1048576) 1048572)) := rfl
  rw [e1]
  have e2 : rightB ⟨13, S, D, N, M, A, I, J, U, F, C, Y, G, X, O, L⟩ = ((((((((((((holdsB ⟨0, 0, 0⟩ D && holdsB ⟨0, 0, 0⟩ N) && holdsB ⟨0, 0, 0⟩ M) && holdsB ⟨0, 0, 0⟩ A) && holdsB ⟨0, 0, 0⟩ S) && holdsB ⟨(-1048576), 1048572, 4⟩ I) && holdsB ⟨0, 0, 0⟩ J) && holdsB ⟨0, 0, 0⟩ U) && holdsB ⟨0, 0, 0⟩ F) && holdsB ⟨0, 15, 1⟩ C) && (((!G && !X) && !O) && !L)) && (Y == 0)) && true) := rfl
  rw [e2]
  simp only [holds_zero, r_holds_in, holds_step (-1048576) 1048572 4, Bool.and_true, Bool.true_and]
  ac_rfl
theorem re14 (S D N M A I J U F C Y : Int) (G X O L : Bool) : rightR ⟨14, S, D, N, M, A, I, J, U, F, C, Y, G, X, O, L⟩ = rightB ⟨14, S, D, N, M, A, I, J, U, F, C, Y, G, X, O, L⟩ := by
  have e1 : rightR ⟨14, S, D, N, M, A, I, J, U, F, C, Y, G, X, O, L⟩ = (((inB D 0 31 && ((N == 0) && ((M == 0) && ((A == 0) && ((J == 0) && ((U == 0) && ((F == 0) && ((S == 0) && ((C == 0) && ((Y == 0) && true)))))))))) && (!G && (!X && (!L && true)))) && (stepB I 4 (-1048576) 1048572)) := rfl
  rw [e1]
  have e2 : rightB ⟨14, S, D, N, M, A, I, J, U, F, C, Y, G, X, O, L⟩ = ((((((((((((holdsB ⟨0, 31, 1⟩ D && holdsB ⟨0, 0, 0⟩ N) && holdsB ⟨0, 0, 0⟩ M) && holdsB ⟨0, 0, 0⟩ A) && holdsB ⟨0, 0, 0⟩ S) && holdsB ⟨(-1048576), 1048572, 4⟩ I) && holdsB ⟨0, 0, 0⟩ J) && holdsB ⟨0, 0, 0⟩ U) && holdsB ⟨0, 0, 0⟩ F) && holdsB ⟨0, 0, 0⟩ C) && (((!G && !X) && true) && !L)) && (Y == 0)) && true) := rfl
  rw [e2]
  simp only [holds_zero, r_holds_in, holds_step (-1048576) 1048572 4, Bool.and_true, Bool.true_and]
  ac_rfl
theorem re15 (S D N M A I J U F C Y : Int) (G X O L : Bool) : rightR ⟨15, S, D, N, M, A, I, J, U, F, C, Y, G, X, O, L⟩ = rightB ⟨15, S, D, N, M, A, I, J, U, F, C, Y, G, X, O, L⟩ := by
  have e1 : rightR ⟨15, S, D, N, M, A, I, J, U, F, C, Y, G, X, O, L⟩ = (((inB D 0 31 && ((N == 0) && ((M == 0) && ((A == 0) && ((J == 0) && ((F == 0) && ((S == 0) && ((C == 0) && ((Y == 0) && true))))))))) && (!G && (!X && (!L && true)))) && (inB U 0 63 && stepB I 4 (-32768) 32764)) := rfl
  rw [e1]
  have e2 : rightB ⟨15, S, D, N, M, A, I, J, U, F, C, Y, G, X, O, L⟩ = ((((((((((((holdsB ⟨0, 31, 1⟩ D && holdsB ⟨0, 0, 0⟩ N) && holdsB ⟨0, 0, 0⟩ M) && holdsB ⟨0, 0, 0⟩ A) && holdsB ⟨0, 0, 0⟩ S) && holdsB ⟨(-32768), 32764, 4⟩ I) && holdsB ⟨0, 0, 0⟩ J) && holdsB ⟨0, 63, 1⟩ U) && holdsB ⟨0, 0, 0⟩ F) && holdsB ⟨0, 0, 0⟩ C) && (((!G && !X) && true) && !L)) && (Y == 0)) && true) := rfl
  rw [e2]
  simp only [holds_zero, r_holds_in, holds_step (-32768) 32764 4, Bool.and_true, Bool.true_and]
  ac_rfl
theorem re16 (S D N M A I J U F C Y : Int) (G X O L : Bool) : rightR ⟨16, S, D, N, M, A, I, J, U, F, C, Y, G, X, O, L⟩ = rightB ⟨16, S, D, N, M, A, I, J, U, F, C, Y, G, X, O, L⟩ := by
  have e1 : rightR ⟨16, S, D, N, M, A, I, J, U, F, C, Y, G, X, O, L⟩ = ((((D == 0) && (inB N 0 31 && ((M == 0) && ((A == 0) && ((I == 0) && ((J == 0) && ((U == 0) && ((F == 0) && ((C == 0) && ((Y == 0) && true)))))))))) && (!G && (!X && (!O && (!L && true))))) && (inB S 0 2)) := rfl
  rw [e1]
  have e2 : rightB ⟨16, S, D, N, M, A, I, J, U, F, C, Y, G, X, O, L⟩ = ((((((((((((holdsB ⟨0, 0, 0⟩ D && holdsB ⟨0, 31, 1⟩ N) && holdsB ⟨0, 0, 0⟩ M) && holdsB ⟨0, 0, 0⟩ A) && holdsB ⟨0, 2, 1⟩ S) && holdsB ⟨0, 0, 0⟩ I) && holdsB ⟨0, 0, 0⟩ J) && holdsB ⟨0, 0, 0⟩ U) && holdsB ⟨0, 0, 0⟩ F) && holdsB ⟨0, 0, 0⟩ C) && (((!G && !X) && !O) && !L)) && (Y == 0)) && true) := rfl
  rw [e2]
  simp only [holds_zero, r_holds_in, Bool.and_true, Bool.true_and]
  ac_rfl
theorem re17 (S D N M A I J U F C Y : Int) (G X O L : Bool) : rightR ⟨17, S, D, N, M, A, I, J, U, F, C, Y, G, X, O, L⟩ = rightB ⟨17, S, D, N, M, A, I, J, U, F, C, Y, G, X, O, L⟩ := by
  have e1 : rightR ⟨17, S, D, N, M, A, I, J, U, F, C, Y, G, X, O, L⟩ = (((inB D 0 31 && (inB N 0 31 && ((M == 0) && ((A == 0) && ((J == 0) && ((U == 0) && ((F == 0) && ((S == 0) && ((C == 0) && ((Y == 0) && true)))))))))) && (!G && (!X && (!O && (!L && true))))) && (stepB I 8 0 32760)) := rfl
  rw [e1]
  have e2 : rightB ⟨17, S, D, N, M, A, I, J, U, F, C, Y, G, X, O, L⟩ = ((((((((((((holdsB ⟨0, 31, 1⟩ D && holdsB ⟨0, 31, 1⟩ N) && holdsB ⟨0, 0, 0⟩ M) && holdsB ⟨0, 0, 0⟩ A) && holdsB ⟨0, 0, 0⟩ S) && holdsB ⟨0, 32760, 8⟩ I) && holdsB ⟨0, 0, 0⟩ J) && holdsB ⟨0, 0, 0⟩ U) && holdsB ⟨0, 0, 0⟩ F) && holdsB ⟨0, 0, 0⟩ C) && (((!G && !X) && !O) && !L)) && (Y == 0)) && true) := rfl
  rw [e2]
  simp only [holds_zero, r_holds_in, holds_step (0) 32760 8, Bool.and_true, Bool.true_and]
  ac_rfl
theorem re18 (S D N M A I J U F C Y : Int) (G X O L : Bool) : rightR ⟨18, S, D, N, M, A, I, J, U, F, C, Y, G, X, O, L⟩ = rightB ⟨18, S, D, N, M, A, I, J, U, F, C, Y, G, X, O, L⟩ := by
  have e1 : rightR ⟨18, S, D, N, M, A, I, J, U, F, C, Y, G, X, O, L⟩ = (((inB D 0 31 && (inB N 0 31 && ((M == 0) && ((A == 0) && ((J == 0) && ((U == 0) && ((F == 0) && ((S == 0) && ((C == 0) && ((Y == 0) && true)))))))))) && (!G && (!X && (!O && (!L && true))))) && (stepB I 8 0 32760)) := rfl
  rw [e1]
  have e2 : rightB ⟨18, S, D, N, M, A, I, J, U, F, C, Y, G, X, O, L⟩ = ((((((((((((holdsB ⟨0, 31, 1⟩ D && holdsB ⟨0, 31, 1⟩ N) && holdsB ⟨0, 0, 0⟩ M) && holdsB ⟨0, 0, 0⟩ A) && holdsB ⟨0, 0, 0⟩ S) && holdsB ⟨0, 32760, 8⟩ I) && holdsB ⟨0, 0, 0⟩ J) && holdsB ⟨0, 0, 0⟩ U) && holdsB ⟨0, 0, 0⟩ F) && holdsB ⟨0, 0, 0⟩ C) && (((!G && !X) && !O) && !L)) && (Y == 0)) && true) := rfl
  rw [e2]
  simp only [holds_zero, r_holds_in, holds_step (0) 32760 8, Bool.and_true, Bool.true_and]
  ac_rfl
theorem re19 (S D N M A I J U F C Y : Int) (G X O L : Bool) : rightR ⟨19, S, D, N, M, A, I, J, U, F, C, Y, G, X, O, L⟩ = rightB ⟨19, S, D, N, M, A, I, J, U, F, C, Y, G, X, O, L⟩ := by
  have e1 : rightR ⟨19, S, D, N, M, A, I, J, U, F, C, Y, G, X, O, L⟩ = (((inB D 0 31 && (inB N 0 31 && (inB M 0 31 && ((A == 0) && ((I == 0) && ((J == 0) && ((F == 0) && ((S == 0) && ((C == 0) && ((Y == 0) && true)))))))))) && (!G && (!X && (!O && (!L && true))))) && ((U == 0 || U == 3))) := rfl
  rw [e1]
  have e2 : rightB ⟨19, S, D, N, M, A, I, J, U, F, C, Y, G, X, O, L⟩ = ((((((((((((holdsB ⟨0, 31, 1⟩ D && holdsB ⟨0, 31, 1⟩ N) && holdsB ⟨0, 31, 1⟩ M) && holdsB ⟨0, 0, 0⟩ A) && holdsB ⟨0, 0, 0⟩ S) && holdsB ⟨0, 0, 0⟩ I) && holdsB ⟨0, 0, 0⟩ J) && holdsB ⟨0, 3, 3⟩ U) && holdsB ⟨0, 0, 0⟩ F) && holdsB ⟨0, 0, 0⟩ C) && (((!G && !X) && !O) && !L)) && (Y == 0)) && true) := rfl
  rw [e2]
  rw [← step_two (n := U) (u := 3) (by decide)]; simp only [holds_zero, r_holds_in, holds_step (0) 3 3, Bool.and_true, Bool.true_and]
  ac_rfl
theorem re20 (S D N M A I J U F C Y : Int) (G X O L : Bool) : rightR ⟨20, S, D, N, M, A, I, J, U, F, C, Y, G, X, O, L⟩ = rightB ⟨20, S, D, N, M, A, I, J, U, F, C, Y, G, X, O, L⟩ := by
  have e1 : rightR ⟨20, S, D, N, M, A, I, J, U, F, C, Y, G, X, O, L⟩ = (((inB D 0 31 && (inB N 0 31 && (inB M 0 31 && ((A == 0) && ((I == 0) && ((J == 0) && ((F == 0) && ((S == 0) && ((C == 0) && ((Y == 0) && true)))))))))) && (!G && (!X && (!O && (!L && true))))) && ((U == 0 || U == 3))) := rfl
  rw [e1]
  have e2 : rightB ⟨20, S, D, N, M, A, I, J, U, F, C, Y, G, X, O, L⟩ = ((((((((((((holdsB ⟨0, 31, 1⟩ D && holdsB ⟨0, 31, 1⟩ N) && holdsB ⟨0, 31, 1⟩ M) && holdsB ⟨0, 0, 0⟩ A) && holdsB ⟨0, 0, 0⟩ S) && holdsB ⟨0, 0, 0⟩ I) && holdsB ⟨0, 0, 0⟩ J) && holdsB ⟨0, 3, 3⟩ U) && holdsB ⟨0, 0, 0⟩ F) && holdsB ⟨0, 0, 0⟩ C) && (((!G && !X) && !O) && !L)) && (Y == 0)) && true) := rfl
  rw [e2]
  rw [← step_two (n := U) (u := 3) (by decide)]; simp only [holds_zero, r_holds_in, holds_step (0) 3 3, Bool.and_true, Bool.true_and]
  ac_rfl
theorem re21 (S D N M A I J U F C Y : Int) (G X O L : Bool) : rightR ⟨21, S, D, N, M, A, I, J, U, F, C, Y, G, X, O, L⟩ = rightB ⟨21, S, D, N, M, A, I, J, U, F, C, Y, G, X, O, L⟩ := by
  have e1 : rightR ⟨21, S, D, N, M, A, I, J, U, F, C, Y, G, X, O, L⟩ = (((inB D 0 31 && (inB N 0 31 && ((M == 0) && ((A == 0) && ((I == 0) && ((J == 0) && ((U == 0) && ((F == 0) && ((C == 0) && ((Y == 0) && true)))))))))) && (!G && (!X && (!O && (!L && true))))) && (inB S 0 1)) := rfl
  rw [e1]
  have e2 : rightB ⟨21, S, D, N, M, A, I, J, U, F, C, Y, G, X, O, L⟩ = ((((((((((((holdsB ⟨0, 31, 1⟩ D && holdsB ⟨0, 31, 1⟩ N) && holdsB ⟨0, 0, 0⟩ M) && holdsB ⟨0, 0, 0⟩ A) && holdsB ⟨0, 1, 1⟩ S) && holdsB ⟨0, 0, 0⟩ I) && holdsB ⟨0, 0, 0⟩ J) && holdsB ⟨0, 0, 0⟩ U) && holdsB ⟨0, 0, 0⟩ F) && holdsB ⟨0, 0, 0⟩ C) && (((!G && !X) && !O) && !L)) && (Y == 0)) && true) := rfl
  rw [e2]
  simp only [holds_zero, r_holds_in, Bool.and_true, Bool.true_and]
  ac_rfl
theorem re22 (S D N M A I J U F C Y : Int) (G X O L : Bool) : rightR ⟨22, S, D, N, M, A, I, J, U, F, C, Y, G, X, O, L⟩ = rightB ⟨22, S, D, N, M, A, I, J, U, F, C, Y, G, X, O, L⟩ := by
  have e1 : rightR ⟨22, S, D, N, M, A, I, J, U, F, C, Y, G, X, O, L⟩ = (((inB D 0 31 && (inB N 0 31 && ((M == 0) && ((A == 0) && ((I == 0) && ((J == 0) && ((U == 0) && ((F == 0) && ((S == 0) && ((C == 0) && ((Y == 0) && true))))))))))) && (!G && (!X && (!O && (!L && true))))) && (true)) := rfl
  rw [e1]
  have e2 : rightB ⟨22, S, D, N, M, A, I, J, U, F, C, Y, G, X, O, L⟩ = ((((((((((((holdsB ⟨0, 31, 1⟩ D && holdsB ⟨0, 31, 1⟩ N) && holdsB ⟨0, 0, 0⟩ M) && holdsB ⟨0, 0, 0⟩ A) && holdsB ⟨0, 0, 0⟩ S) && holdsB ⟨0, 0, 0⟩ I) && holdsB ⟨0, 0, 0⟩ J) && holdsB ⟨0, 0, 0⟩ U) && holdsB ⟨0, 0, 0⟩ F) && holdsB ⟨0, 0, 0⟩ C) && (((!G && !X) && !O) && !L)) && (Y == 0)) && true) := rfl
  rw [e2]
  simp only [holds_zero, r_holds_in, Bool.and_true, Bool.true_and]
  ac_rfl
theorem re23 (S D N M A I J U F C Y : Int) (G X O L : Bool) : rightR ⟨23, S, D, N, M, A, I, J, U, F, C, Y, G, X, O, L⟩ = rightB ⟨23, S, D, N, M, A, I, J, U, F, C, Y, G, X, O, L⟩ := by
  have e1 : rightR ⟨23, S, D, N, M, A, I, J, U, F, C, Y, G, X, O, L⟩ = (((inB D 0 31 && (inB N 0 31 && ((M == 0) && ((A == 0) && ((I == 0) && ((J == 0) && ((U == 0) && ((F == 0) && ((C == 0) && ((Y == 0) && true)))))))))) && (!G && (!X && (!O && (!L && true))))) && (inB S 0 1)) := rfl
  rw [e1]
  have e2 : rightB ⟨23, S, D, N, M, A, I, J, U, F, C, Y, G, X, O, L⟩ = ((((((((((((holdsB ⟨0, 31, 1⟩ D && holdsB ⟨0, 31, 1⟩ N) && holdsB ⟨0, 0, 0⟩ M) && holdsB ⟨0, 0, 0⟩ A) && holdsB ⟨0, 1, 1⟩ S) && holdsB ⟨0, 0, 0⟩ I) && holdsB ⟨0, 0, 0⟩ J) && holdsB ⟨0, 0, 0⟩ U) && holdsB ⟨0, 0, 0⟩ F) && holdsB ⟨0, 0, 0⟩ C) && (((!G && !X) && !O) && !L)) && (Y == 0)) && true) := rfl
  rw [e2]
  simp only [holds_zero, r_holds_in, Bool.and_true, Bool.true_and]
  ac_rfl
theorem re24 (S D N M A I J U F C Y : Int) (G X O L : Bool) : rightR ⟨24, S, D, N, M, A, I, J, U, F, C, Y, G, X, O, L⟩ = rightB ⟨24, S, D, N, M, A, I, J, U, F, C, Y, G, X, O, L⟩ := by
  have e1 : rightR ⟨24, S, D, N, M, A, I, J, U, F, C, Y, G, X, O, L⟩ = (((inB D 0 31 && (inB N 0 31 && (inB M 0 31 && ((A == 0) && ((I == 0) && ((J == 0) && ((U == 0) && ((F == 0) && ((C == 0) && ((Y == 0) && true)))))))))) && (!G && (!X && (!O && (!L && true))))) && (inB S 0 1)) := rfl
  rw [e1]
  have e2 : rightB ⟨24, S, D, N, M, A, I, J, U, F, C, Y, G, X, O, L⟩ = ((((((((((((holdsB ⟨0, 31, 1⟩ D && holdsB ⟨0, 31, 1⟩ N) && holdsB ⟨0, 31, 1⟩ M) && holdsB ⟨0, 0, 0⟩ A) && holdsB ⟨0, 1, 1⟩ S) && holdsB ⟨0, 0, 0⟩ I) && holdsB ⟨0, 0, 0⟩ J) && holdsB ⟨0, 0, 0⟩ U) && holdsB ⟨0, 0, 0⟩ F) && holdsB ⟨0, 0, 0⟩ C) && (((!G && !X) && !O) && !L)) && (Y == 0)) && true) := rfl
  rw [e2]
  simp only [holds_zero, r_holds_in, Bool.and_true, Bool.true_and]
  ac_rfl
theorem re25 (S D N M A I J U F C Y : Int) (G X O L : Bool) : rightR ⟨25, S, D, N, M, A, I, J, U, F, C, Y, G, X, O, L⟩ = rightB ⟨25, S, D, N, M, A, I, J, U, F, C, Y, G, X, O, L⟩ := by
  have e1 : rightR ⟨25, S, D, N, M, A, I, J, U, F, C, Y, G, X, O, L⟩ = ((((D == 0) && ((N == 0) && ((M == 0) && ((A == 0) && ((I == 0) && ((J == 0) && ((U == 0) && ((F == 0) && ((S == 0) && ((C == 0) && ((Y == 0) && true))))))))))) && (!G && (!X && (!O && (!L && true))))) && (true)) := rfl
  rw [e1]
  have e2 : rightB ⟨25, S, D, N, M, A, I, J, U, F, C, Y, G, X, O, L⟩ = ((((((((((((holdsB ⟨0, 0, 0⟩ D && holdsB ⟨0, 0, 0⟩ N) && holdsB ⟨0, 0, 0⟩ M) && holdsB ⟨0, 0, 0⟩ A) && holdsB ⟨0, 0, 0⟩ S) && holdsB ⟨0, 0, 0⟩ I) && holdsB ⟨0, 0, 0⟩ J) && holdsB ⟨0, 0, 0⟩ U) && holdsB ⟨0, 0, 0⟩ F) && holdsB ⟨0, 0, 0⟩ C) && (((!G && !X) && !O) && !L)) && (Y == 0)) && true) := rfl
  rw [e2]
  simp only [holds_zero, r_holds_in, Bool.and_true, Bool.true_and]
  ac_rfl
theorem re26 (S D N M A I J U F C Y : Int) (G X O L : Bool) : rightR ⟨26, S, D, N, M, A, I, J, U, F, C, Y, G, X, O, L⟩ = rightB ⟨26, S, D, N, M, A, I, J, U, F, C, Y, G, X, O, L⟩ := by
  have e1 : rightR ⟨26, S, D, N, M, A, I, J, U, F, C, Y, G, X, O, L⟩ = ((((D == 0) && ((N == 0) && ((M == 0) && ((A == 0) && ((J == 0) && ((U == 0) && ((F == 0) && ((C == 0) && ((Y == 0) && true))))))))) && (!G && (!X && (!O && (!L && true))))) && (inB S 0 1 && inB I 1 3)) := rfl
  rw [e1]
  have e2 : rightB ⟨26, S, D, N, M, A, I, J, U, F, C, Y, G, X, O, L⟩ = ((((((((((((holdsB ⟨0, 0, 0⟩ D && holdsB ⟨0, 0, 0⟩ N) && holdsB ⟨0, 0, 0⟩ M) && holdsB ⟨0, 0, 0⟩ A) && holdsB ⟨0, 1, 1⟩ S) && holdsB ⟨1, 3, 1⟩ I) && holdsB ⟨0, 0, 0⟩ J) && holdsB ⟨0, 0, 0⟩ U) && holdsB ⟨0, 0, 0⟩ F) && holdsB ⟨0, 0, 0⟩ C) && (((!G && !X) && !O) && !L)) && (Y == 0)) && true) := rfl
  rw [e2]
  simp only [holds_zero, r_holds_in, Bool.and_true, Bool.true_and]
  ac_rfl
theorem re27 (S D N M A I J U F C Y : Int) (G X O L : Bool) : rightR ⟨27, S, D, N, M, A, I, J, U, F, C, Y, G, X, O, L⟩ = rightB ⟨27, S, D, N, M, A, I, J, U, F, C, Y, G, X, O, L⟩ := by
  have e1 : rightR ⟨27, S, D, N, M, A, I, J, U, F, C, Y, G, X, O, L⟩ = ((((D == 0) && ((N == 0) && ((M == 0) && ((A == 0) && ((I == 0) && ((J == 0) && ((U == 0) && ((F == 0) && ((S == 0) && ((C == 0) && ((Y == 0) && true))))))))))) && (!G && (!X && (!O && (!L && true))))) && (true)) := rfl
  rw [e1]
  have e2 : rightB ⟨27, S, D, N, M, A, I, J, U, F, C, Y, G, X, O, L⟩ = ((((((((((((holdsB ⟨0, 0, 0⟩ D && holdsB ⟨0, 0, 0⟩ N) && holdsB ⟨0, 0, 0⟩ M) && holdsB ⟨0, 0, 0⟩ A) && holdsB ⟨0, 0, 0⟩ S) && holdsB ⟨0, 0, 0⟩ I) && holdsB ⟨0, 0, 0⟩ J) && holdsB ⟨0, 0, 0⟩ U) && holdsB ⟨0, 0, 0⟩ F) && holdsB ⟨0, 0, 0⟩ C) && (((!G && !X) && !O) && !L)) && (Y == 0)) && true) := rfl
  rw [e2]
  simp only [holds_zero, r_holds_in, Bool.and_true, Bool.true_and]
  ac_rfl
theorem re28 (S D N M A I J U F C Y : Int) (G X O L : Bool) : rightR ⟨28, S, D, N, M, A, I, J, U, F, C, Y, G, X, O, L⟩ = rightB ⟨28, S, D, N, M, A, I, J, U, F, C, Y, G, X, O, L⟩ := by
  have e1 : rightR ⟨28, S, D, N, M, A, I, J, U, F, C, Y, G, X, O, L⟩ = (((inB D 0 31 && ((N == 0) && ((M == 0) && ((A == 0) && ((I == 0) && ((J == 0) && ((U == 0) && ((F == 0) && ((S == 0) && ((C == 0) && ((Y == 0) && true))))))))))) && (!G && (!X && (!O && (!L && true))))) && (true)) := rfl
  rw [e1]
  have e2 : rightB ⟨28, S, D, N, M, A, I, J, U, F, C, Y, G, X, O, L⟩ = ((((((((((((holdsB ⟨0, 31, 1⟩ D && holdsB ⟨0, 0, 0⟩ N) && holdsB ⟨0, 0, 0⟩ M) && holdsB ⟨0, 0, 0⟩ A) && holdsB ⟨0, 0, 0⟩ S) && holdsB ⟨0, 0, 0⟩ I) && holdsB ⟨0, 0, 0⟩ J) && holdsB ⟨0, 0, 0⟩ U) && holdsB ⟨0, 0, 0⟩ F) && holdsB ⟨0, 0, 0⟩ C) && (((!G && !X) && !O) && !L)) && (Y == 0)) && true) := rfl
  rw [e2]
  simp only [holds_zero, r_holds_in, Bool.and_true, Bool.true_and]
  ac_rfl
theorem re29 (S D N M A I J U F C Y : Int) (G X O L : Bool) : rightR ⟨29, S, D, N, M, A, I, J, U, F, C, Y, G, X, O, L⟩ = rightB ⟨29, S, D, N, M, A, I, J, U, F, C, Y, G, X, O, L⟩ := by
  have e1 : rightR ⟨29, S, D, N, M, A, I, J, U, F, C, Y, G, X, O, L⟩ = ((((D == 0) && ((N == 0) && ((M == 0) && ((A == 0) && ((I == 0) && ((J == 0) && ((U == 0) && ((F == 0) && ((S == 0) && ((C == 0) && ((Y == 0) && true))))))))))) && (!G && (!X && (!O && (!L && true))))) && (true)) := rfl
  rw [e1]
  have e2 : rightB ⟨29, S, D, N, M, A, I, J, U, F, C, Y, G, X, O, L⟩ = ((((((((((((holdsB ⟨0, 0, 0⟩ D && holdsB ⟨0, 0, 0⟩ N) && holdsB ⟨0, 0, 0⟩ M) && holdsB ⟨0, 0, 0⟩ A) && holdsB ⟨0, 0, 0⟩ S) && holdsB ⟨0, 0, 0⟩ I) && holdsB ⟨0, 0, 0⟩ J) && holdsB ⟨0, 0, 0⟩ U) && holdsB ⟨0, 0, 0⟩ F) && holdsB ⟨0, 0, 0⟩ C) && (((!G && !X) && !O) && !L)) && (Y == 0)) && true) := rfl
  rw [e2]
  simp only [holds_zero, r_holds_in, Bool.and_true, Bool.true_and]
  ac_rfl
theorem re30 (S D N M A I J U F C Y : Int) (G X O L : Bool) : rightR ⟨30, S, D, N, M, A, I, J, U, F, C, Y, G, X, O, L⟩ = rightB ⟨30, S, D, N, M, A, I, J, U, F, C, Y, G, X, O, L⟩ := by
  have e1 : rightR ⟨30, S, D, N, M, A, I, J, U, F, C, Y, G, X, O, L⟩ = (((inB D 0 31 && ((N == 0) && ((M == 0) && ((A == 0) && ((I == 0) && ((J == 0) && ((U == 0) && ((F == 0) && ((S == 0) && ((C == 0) && ((Y == 0) && true))))))))))) && (!G && (!X && (!O && (!L && true))))) && (true)) := rfl
  rw [e1]
  have e2 : rightB ⟨30, S, D, N, M, A, I, J, U, F, C, Y, G, X, O, L⟩ = ((((((((((((holdsB ⟨0, 31, 1⟩ D && holdsB ⟨0, 0, 0⟩ N) && holdsB ⟨0, 0, 0⟩ M) && holdsB ⟨0, 0, 0⟩ A) && holdsB ⟨0, 0, 0⟩ S) && holdsB ⟨0, 0, 0⟩ I) && holdsB ⟨0, 0, 0⟩ J) && holdsB ⟨0, 0, 0⟩ U) && holdsB ⟨0, 0, 0⟩ F) && holdsB ⟨0, 0, 0⟩ C) && (((!G && !X) && !O) && !L)) && (Y == 0)) && true) := rfl
  rw [e2]
  simp only [holds_zero, r_holds_in, Bool.and_true, Bool.true_and]
  ac_rfl
theorem re31 (S D N M A I J U F C Y : Int) (G X O L : Bool) : rightR ⟨31, S, D, N, M, A, I, J, U, F, C, Y, G, X, O, L⟩ = rightB ⟨31, S, D, N, M, A, I, J, U, F, C, Y, G, X, O, L⟩ := by
  have e1 : rightR ⟨31, S, D, N, M, A, I, J, U, F, C, Y, G, X, O, L⟩ = (((inB D 0 31 && ((N == 0) && ((M == 0) && ((A == 0) && ((I == 0) && ((J == 0) && ((U == 0) && ((F == 0) && ((S == 0) && ((C == 0) && true)))))))))) && (!G && (!X && (!O && (!L && true))))) && (sysB Y)) := rfl
  rw [e1]
  have e2 : rightB ⟨31, S, D, N, M, A, I, J, U, F, C, Y, G, X, O, L⟩ = ((((((((((((holdsB ⟨0, 31, 1⟩ D && holdsB ⟨0, 0, 0⟩ N) && holdsB ⟨0, 0, 0⟩ M) && holdsB ⟨0, 0, 0⟩ A) && holdsB ⟨0, 0, 0⟩ S) && holdsB ⟨0, 0, 0⟩ I) && holdsB ⟨0, 0, 0⟩ J) && holdsB ⟨0, 0, 0⟩ U) && holdsB ⟨0, 0, 0⟩ F) && holdsB ⟨0, 0, 0⟩ C) && (((!G && !X) && !O) && !L)) && sysB Y) && true) := rfl
  rw [e2]
  simp only [holds_zero, r_holds_in, Bool.and_true, Bool.true_and]
  ac_rfl
theorem re32 (S D N M A I J U F C Y : Int) (G X O L : Bool) : rightR ⟨32, S, D, N, M, A, I, J, U, F, C, Y, G, X, O, L⟩ = rightB ⟨32, S, D, N, M, A, I, J, U, F, C, Y, G, X, O, L⟩ := by
  have e1 : rightR ⟨32, S, D, N, M, A, I, J, U, F, C, Y, G, X, O, L⟩ = (((inB D 0 31 && ((N == 0) && ((M == 0) && ((A == 0) && ((I == 0) && ((J == 0) && ((U == 0) && ((F == 0) && ((S == 0) && ((C == 0) && true)))))))))) && (!G && (!X && (!O && (!L && true))))) && (sysB Y)) := rfl
  rw [e1]
  have e2 : rightB ⟨32, S, D, N, M, A, I, J, U, F, C, Y, G, X, O, L⟩ = ((((((((((((holdsB ⟨0, 31, 1⟩ D && holdsB ⟨0, 0, 0⟩ N) && holdsB ⟨0, 0, 0⟩ M) && holdsB ⟨0, 0, 0⟩ A) && holdsB ⟨0, 0, 0⟩ S) && holdsB ⟨0, 0, 0⟩ I) && holdsB ⟨0, 0, 0⟩ J) && holdsB ⟨0, 0, 0⟩ U) && holdsB ⟨0, 0, 0⟩ F) && holdsB ⟨0, 0, 0⟩ C) && (((!G && !X) && !O) && !L)) && sysB Y) && true) := rfl
  rw [e2]
  simp only [holds_zero, r_holds_in, Bool.and_true, Bool.true_and]
  ac_rfl
theorem re33 (S D N M A I J U F C Y : Int) (G X O L : Bool) : rightR ⟨33, S, D, N, M, A, I, J, U, F, C, Y, G, X, O, L⟩ = rightB ⟨33, S, D, N, M, A, I, J, U, F, C, Y, G, X, O, L⟩ := by
  have e1 : rightR ⟨33, S, D, N, M, A, I, J, U, F, C, Y, G, X, O, L⟩ = ((((D == 0) && ((N == 0) && ((M == 0) && ((A == 0) && ((J == 0) && ((U == 0) && ((F == 0) && ((C == 0) && ((Y == 0) && true))))))))) && (!G && (!X && (!O && (!L && true))))) && (inB S 0 1 && inB I 0 15)) := rfl
  rw [e1]
  have e2 : rightB ⟨33, S, D, N, M, A, I, J, U, F, C, Y, G, X, O, L⟩ = ((((((((((((holdsB ⟨0, 0, 0⟩ D && holdsB ⟨0, 0, 0⟩ N) && holdsB ⟨0, 0, 0⟩ M) && holdsB ⟨0, 0, 0⟩ A) && holdsB ⟨0, 1, 1⟩ S) && holdsB ⟨0, 15, 1⟩ I) && holdsB ⟨0, 0, 0⟩ J) && holdsB ⟨0, 0, 0⟩ U) && holdsB ⟨0, 0, 0⟩ F) && holdsB ⟨0, 0, 0⟩ C) && (((!G && !X) && !O) && !L)) && (Y == 0)) && true) := rfl
  rw [e2]
  simp only [holds_zero, r_holds_in, Bool.and_true, Bool.true_and]
  ac_rfl
theorem re34 (S D N M A I J U F C Y : Int) (G X O L : Bool) : rightR ⟨34, S, D, N, M, A, I, J, U, F, C, Y, G, X, O, L⟩ = rightB ⟨34, S, D, N, M, A, I, J, U, F, C, Y, G, X, O, L⟩ := by
  have e1 : rightR ⟨34, S, D, N, M, A, I, J, U, F, C, Y, G, X, O, L⟩ = ((((D == 0) && ((N == 0) && ((M == 0) && ((A == 0) && ((J == 0) && ((U == 0) && ((F == 0) && ((S == 0) && ((C == 0) && ((Y == 0) && true)))))))))) && (!G && (!X && (!O && (!L && true))))) && (inB I 0 65535)) := rfl
  rw [e1]
  have e2 : rightB ⟨34, S, D, N, M, A, I, J, U, F, C, Y, G, X, O, L⟩ = ((((((((((((holdsB ⟨0, 0, 0⟩ D && holdsB ⟨0, 0, 0⟩ N) && holdsB ⟨0, 0, 0⟩ M) && holdsB ⟨0, 0, 0⟩ A) && holdsB ⟨0, 0, 0⟩ S) && holdsB ⟨0, 65535, 1⟩ I) && holdsB ⟨0, 0, 0⟩ J) && holdsB ⟨0, 0, 0⟩ U) && holdsB ⟨0, 0, 0⟩ F) && holdsB ⟨0, 0, 0⟩ C) && (((!G && !X) && !O) && !L)) && (Y == 0)) && true) := rfl
  rw [e2]
  simp only [holds_zero, r_holds_in, Bool.and_true, Bool.true_and]
  ac_rfl
theorem re35 (S D N M A I J U F C Y : Int) (G X O L : Bool) : rightR ⟨35, S, D, N, M, A, I, J, U, F, C, Y, G, X, O, L⟩ = rightB ⟨35, S, D, N, M, A, I, J, U, F, C, Y, G, X, O, L⟩ := by
  have e1 : rightR ⟨35, S, D, N, M, A, I, J, U, F, C, Y, G, X, O, L⟩ = ((((D == 0) && ((N == 0) && ((M == 0) && ((A == 0) && ((J == 0) && ((U == 0) && ((F == 0) && ((S == 0) && ((C == 0) && ((Y == 0) && true)))))))))) && (!G && (!X && (!O && (!L && true))))) && (inB I 0 65535)) := rfl
  rw [e1]
  have e2 : rightB ⟨35, S, D, N, M, A, I, J, U, F, C, Y, G, X, O, L⟩ = ((((((((((((holdsB ⟨0, 0, 0⟩ D && holdsB ⟨0, 0, 0⟩ N) && holdsB ⟨0, 0, 0⟩ M) && holdsB ⟨0, 0, 0⟩ A) && holdsB ⟨0, 0, 0⟩ S) && holdsB ⟨0, 65535, 1⟩ I) && holdsB ⟨0, 0, 0⟩ J) && holdsB ⟨0, 0, 0⟩ U) && holdsB ⟨0, 0, 0⟩ F) && holdsB ⟨0, 0, 0⟩ C) && (((!G && !X) && !O) && !L)) && (Y == 0)) && true) := rfl
  rw [e2]
  simp only [holds_zero, r_holds_in, Bool.and_true, Bool.true_and]
  ac_rfl
theorem re36 (S D N M A I J U F C Y : Int) (G X O L : Bool) : rightR ⟨36, S, D, N, M, A, I, J, U, F, C, Y, G, X, O, L⟩ = rightB ⟨36, S, D, N, M, A, I, J, U, F, C, Y, G, X, O, L⟩ := by
  have e1 : rightR ⟨36, S, D, N, M, A, I, J, U, F, C, Y, G, X, O, L⟩ = ((((D == 0) && ((N == 0) && ((M == 0) && ((A == 0) && ((I == 0) && ((J == 0) && ((U == 0) && ((F == 0) && ((S == 0) && ((C == 0) && ((Y == 0) && true))))))))))) && (!G && (!X && (!O && (!L && true))))) && (true)) := rfl
  rw [e1]
  have e2 : rightB ⟨36, S, D, N, M, A, I, J, U, F, C, Y, G, X, O, L⟩ = ((((((((((((holdsB ⟨0, 0, 0⟩ D && holdsB ⟨0, 0, 0⟩ N) && holdsB ⟨0, 0, 0⟩ M) && holdsB ⟨0, 0, 0⟩ A) && holdsB ⟨0, 0, 0⟩ S) && holdsB ⟨0, 0, 0⟩ I) && holdsB ⟨0, 0, 0⟩ J) && holdsB ⟨0, 0, 0⟩ U) && holdsB ⟨0, 0, 0⟩ F) && holdsB ⟨0, 0, 0⟩ C) && (((!G && !X) && !O) && !L)) && (Y == 0)) && true) := rfl
  rw [e2]
  simp only [holds_zero, r_holds_in, Bool.and_true, Bool.true_and]
  ac_rfl
theorem re37 (S D N M A I J U F C Y : Int) (G X O L : Bool) : rightR ⟨37, S, D, N, M, A, I, J, U, F, C, Y, G, X, O, L⟩ = rightB ⟨37, S, D, N, M, A, I, J, U, F, C, Y, G, X, O, L⟩ := by
  have e1 : rightR ⟨37, S, D, N, M, A, I, J, U, F, C, Y, G, X, O, L⟩ = ((((D == 0) && ((N == 0) && ((M == 0) && ((A == 0) && ((J == 0) && ((U == 0) && ((F == 0) && ((S == 0) && ((C == 0) && ((Y == 0) && true)))))))))) && (!G && (!X && (!O && (!L && true))))) && (inB I 0 5)) := rfl
  rw [e1]
  have e2 : rightB ⟨37, S, D, N, M, A, I, J, U, F, C, Y, G, X, O, L⟩ = ((((((((((((holdsB ⟨0, 0, 0⟩ D && holdsB ⟨0, 0, 0⟩ N) && holdsB ⟨0, 0, 0⟩ M) && holdsB ⟨0, 0, 0⟩ A) && holdsB ⟨0, 0, 0⟩ S) && holdsB ⟨0, 5, 1⟩ I) && holdsB ⟨0, 0, 0⟩ J) && holdsB ⟨0, 0, 0⟩ U) && holdsB ⟨0, 0, 0⟩ F) && holdsB ⟨0, 0, 0⟩ C) && (((!G && !X) && !O) && !L)) && (Y == 0)) && true) := rfl
  rw [e2]
  simp only [holds_zero, r_holds_in, Bool.and_true, Bool.true_and]
  ac_rfl
theorem shape_out {op : Int} (h : ¬ (1 ≤ op ∧ op ≤ 37)) : shapeS op = ⟨#[]⟩ := by
  unfold shapeS
  simp only [show (op == 1) = false from beq_eq_false_iff_ne.2 (by omega), show (op == 2) = false from beq_eq_false_iff_ne.2 (by omega), show (op == 3) = false from beq_eq_false_iff_ne.2 (by omega), show (op == 4) = false from beq_eq_false_iff_ne.2 (by omega), show (op == 5) = false from beq_eq_false_iff_ne.2 (by omega), show (op == 6) = false from beq_eq_false_iff_ne.2 (by omega), show (op == 7) = false from beq_eq_false_iff_ne.2 (by omega), show (op == 8) = false from beq_eq_false_iff_ne.2 (by omega), show (op == 9) = false from beq_eq_false_iff_ne.2 (by omega), show (op == 10) = false from beq_eq_false_iff_ne.2 (by omega), show (op == 11) = false from beq_eq_false_iff_ne.2 (by omega), show (op == 12) = false from beq_eq_false_iff_ne.2 (by omega), show (op == 13) = false from beq_eq_false_iff_ne.2 (by omega), show (op == 14) = false from beq_eq_false_iff_ne.2 (by omega), show (op == 15) = false from beq_eq_false_iff_ne.2 (by omega), show (op == 16) = false from beq_eq_false_iff_ne.2 (by omega), show (op == 17) = false from beq_eq_false_iff_ne.2 (by omega), show (op == 18) = false from beq_eq_false_iff_ne.2 (by omega), show (op == 19) = false from beq_eq_false_iff_ne.2 (by omega), show (op == 20) = false from beq_eq_false_iff_ne.2 (by omega), show (op == 21) = false from beq_eq_false_iff_ne.2 (by omega), show (op == 22) = false from beq_eq_false_iff_ne.2 (by omega), show (op == 23) = false from beq_eq_false_iff_ne.2 (by omega), show (op == 24) = false from beq_eq_false_iff_ne.2 (by omega), show (op == 25) = false from beq_eq_false_iff_ne.2 (by omega), show (op == 26) = false from beq_eq_false_iff_ne.2 (by omega), show (op == 27) = false from beq_eq_false_iff_ne.2 (by omega), show (op == 28) = false from beq_eq_false_iff_ne.2 (by omega), show (op == 29) = false from beq_eq_false_iff_ne.2 (by omega), show (op == 30) = false from beq_eq_false_iff_ne.2 (by omega), show (op == 31) = false from beq_eq_false_iff_ne.2 (by omega), show (op == 32) = false from beq_eq_false_iff_ne.2 (by omega), show (op == 33) = false from beq_eq_false_iff_ne.2 (by omega), show (op == 34) = false from beq_eq_false_iff_ne.2 (by omega), show (op == 35) = false from beq_eq_false_iff_ne.2 (by omega), show (op == 36) = false from beq_eq_false_iff_ne.2 (by omega), show (op == 37) = false from beq_eq_false_iff_ne.2 (by omega), Bool.or_false, cond_false]
theorem re_out {i : Ins} (h : ¬ (1 ≤ i.op ∧ i.op ≤ 37)) : rightR i = false ∧ rightB i = false := by
  constructor
  · unfold rightR clearB; rw [shape_out h]; rfl
  · unfold rightB
    rcases (by omega : ¬ 1 ≤ i.op ∨ ¬ i.op ≤ 37) with h | h
    · rw [decide_eq_false h]; rfl
    · rw [decide_eq_false (p := i.op ≤ 37) h, Bool.and_false]; rfl
theorem right_eq (i : Ins) : rightR i = rightB i := by
  by_cases h : 1 ≤ i.op ∧ i.op ≤ 37
  · obtain ⟨op, S, D, N, M, A, I, J, U, F, C, Y, G, X, O, L⟩ := i
    have h : 1 ≤ op ∧ op ≤ 37 := h
    rcases (by omega : op = 1 ∨ op = 2 ∨ op = 3 ∨ op = 4 ∨ op = 5 ∨ op = 6 ∨ op = 7 ∨ op = 8 ∨ op = 9 ∨ op = 10 ∨ op = 11 ∨ op = 12 ∨ op = 13 ∨ op = 14 ∨ op = 15 ∨ op = 16 ∨ op = 17 ∨ op = 18 ∨ op = 19 ∨ op = 20 ∨ op = 21 ∨ op = 22 ∨ op = 23 ∨ op = 24 ∨ op = 25 ∨ op = 26 ∨ op = 27 ∨ op = 28 ∨ op = 29 ∨ op = 30 ∨ op = 31 ∨ op = 32 ∨ op = 33 ∨ op = 34 ∨ op = 35 ∨ op = 36 ∨ op = 37) with rfl | rfl | rfl | rfl | rfl | rfl | rfl | rfl | rfl | rfl | rfl | rfl | rfl | rfl | rfl | rfl | rfl | rfl | rfl | rfl | rfl | rfl | rfl | rfl | rfl | rfl | rfl | rfl | rfl | rfl | rfl | rfl | rfl | rfl | rfl | rfl | rfl
    · exact re1 ..
    · exact re2 ..
    · exact re3 ..
    · exact re4 ..
    · exact re5 ..
    · exact re6 ..
    · exact re7 ..
    · exact re8 ..
    · exact re9 ..
    · exact re10 ..
    · exact re11 ..
    · exact re12 ..
    · exact re13 ..
    · exact re14 ..
    · exact re15 ..
    · exact re16 ..
    · exact re17 ..
    · exact re18 ..
    · exact re19 ..
    · exact re20 ..
    · exact re21 ..
    · exact re22 ..
    · exact re23 ..
    · exact re24 ..
    · exact re25 ..
    · exact re26 ..
    · exact re27 ..
    · exact re28 ..
    · exact re29 ..
    · exact re30 ..
    · exact re31 ..
    · exact re32 ..
    · exact re33 ..
    · exact re34 ..
    · exact re35 ..
    · exact re36 ..
    · exact re37 ..
  · rw [(re_out h).1, (re_out h).2]
end Go.Proofs.YtjmdgfimmjodjaaGreatDoor
