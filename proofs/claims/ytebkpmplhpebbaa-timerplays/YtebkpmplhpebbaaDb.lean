/- The document's own timer: Read, Next. -/
import Derived.Test.YtebkpmplhpebbaaDa
namespace Go.Proofs.Ytebkpmplhpebbaa
open Go.RowKit
open Tim
set_option linter.unusedVariables false
set_option linter.unusedSimpArgs false
set_option maxRecDepth 8000

section
variable {r cb cv n : Nat} {T : Tm} {w w' : World}
theorem rread_c (H : RefAt r cb cv n T w) (core sys : Int) : Calls Try.prog 12 #[ptr r 0, vI core, vI sys] w fun e w' => e = .returned (.tuple #[vU (readV n T core sys), vI (readE n core sys)]) ∧ Below w.heap.size w w' := by
  unfold readV readE
  have c0 := H.c0
  have c1 := H.c1
  have c2 := H.c2
  have hh := rhas_c H core
  cases h1 : hasB n core with
  | false =>
    rw [Bool.false_and, if_neg (by decide), if_neg (by decide)]
    rw [h1] at hh
    go_enter Try.func12, Try.ntmps12
    go_wp2_with (first | (go_at_call 24; refine hh.mono ?_; rintro e w' ⟨rfl, rfl⟩; dsimp only))
    go_ret2
    exact ⟨rfl, Below.refl _ _⟩
  | true =>
    obtain ⟨c, rfl, hc⟩ := core_of h1
    have hc' : (c : Int) < n := by omega
    rw [h1] at hh
    rw [Bool.true_and, Int.toNat_natCast]
    have z1 := H.cc hc
    have z2 := H.cl hc
    have h0 := H.ok.b0 c
    have h3 := H.ok.b1 c
    clear H
    cases hs : regB sys with
    | false =>
      rw [if_neg (by decide), if_neg (by decide)]
      simp only [regB, Bool.or_eq_false_iff, decide_eq_false_iff_not] at hs
      obtain ⟨⟨s1, s2⟩, s3⟩ := hs
      go_enter Try.func12, Try.ntmps12
      go_wp2_with (first | (go_at_call 24; refine hh.mono ?_; rintro e w' ⟨rfl, rfl⟩; dsimp only))
      go_ret2
      exact ⟨rfl, Below.refl _ _⟩
    | true =>
      rw [if_pos rfl, if_pos rfl]
      unfold regV
      by_cases g1 : sys = 24322
      · rw [if_pos g1]
        subst g1
        clear hs h0 h3 z1 z2
        go_enter Try.func12, Try.ntmps12
        go_wp2_with (first | (go_at_call 24; refine hh.mono ?_; rintro e w' ⟨rfl, rfl⟩; dsimp only))
        go_ret2
        exact ⟨rfl, Below.refl _ _⟩
      · rw [if_neg g1]
        by_cases g2 : sys = 24346
        · rw [if_pos g2]
          subst g2
          clear hs h0 h3 z1 g1
          go_enter Try.func12, Try.ntmps12
          go_wp2_with (first | (go_at_call 24; refine hh.mono ?_; rintro e w' ⟨rfl, rfl⟩; dsimp only))
          go_ret2
          exact ⟨rfl, Below.refl _ _⟩
        · rw [if_neg g2]
          have g3 : sys = 24345 := by
            simp only [regB, Bool.or_eq_true, decide_eq_true_eq] at hs
            omega
          subst g3
          unfold Tm.bits
          have a1 := and1 (T.ctl c) h0 (by omega)
          have o4 := or4 (T.ctl c) h0 h3
          clear g1 g2 hs h0 h3
          generalize T.cval c = x at z2 ⊢
          generalize T.cnt = y at c0 ⊢
          by_cases q1 : T.ctl c % 2 = 1
          · have b1 : (bits .and .u64 (T.ctl c) 1 == 1) = true := by rw [a1, q1]; rfl
            by_cases q2 : x ≤ y
            · rw [if_pos ⟨q1, q2⟩, ← o4]
              clear a1 o4 q1
              go_enter Try.func12, Try.ntmps12
              go_upto_region 11 with (first | (go_at_call 24; refine hh.mono ?_; rintro e w' ⟨rfl, rfl⟩; dsimp only))
              go_quiet (fail)
              go_wp2
              go_ret2
              exact ⟨rfl, Rel.below_draws (Below.refl _ _)⟩
            · rw [if_neg (fun h => q2 h.2)]
              clear a1 o4 q1
              go_enter Try.func12, Try.ntmps12
              go_upto_region 11 with (first | (go_at_call 24; refine hh.mono ?_; rintro e w' ⟨rfl, rfl⟩; dsimp only))
              go_quiet (fail)
              go_wp2
              go_ret2
              exact ⟨rfl, Rel.below_draws (Below.refl _ _)⟩
          · rw [if_neg (fun h => q1 h.1)]
            have b1 : (bits .and .u64 (T.ctl c) 1 == 1) = false := by rw [a1, show T.ctl c % 2 = 0 by omega]; rfl
            clear a1 o4 q1
            go_enter Try.func12, Try.ntmps12
            go_upto_region 11 with (first | (go_at_call 24; refine hh.mono ?_; rintro e w' ⟨rfl, rfl⟩; dsimp only))
            go_quiet (fail)
            go_wp2
            go_ret2
            exact ⟨rfl, Rel.below_draws (Below.refl _ _)⟩
end
end Go.Proofs.Ytebkpmplhpebbaa
