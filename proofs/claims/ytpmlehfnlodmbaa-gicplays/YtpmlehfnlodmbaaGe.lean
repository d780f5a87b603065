/- The document's own controller: Running, Eoi. -/
import Derived.Test.YtpmlehfnlodmbaaGd
namespace Go.Proofs.Ytpmlehfnlodmbaa.Doc
open Go.RowKit
set_option linter.unusedVariables false
set_option linter.unusedSimpArgs false

def runF (X : Ref) (n : Nat) (core : Int) : Nat → Int
  | 0 => 256
  | m + 1 => if (X.get (posR n core m) (posK m)).a = true ∧ (X.get (posR n core m) (posK m)).own = core ∧ (X.get (posR n core m) (posK m)).was < runF X n core m then (X.get (posR n core m) (posK m)).was else runF X n core m
theorem rbad_in {n : Nat} {core : Int} {i : Nat} (h1 : 0 ≤ core) (h2 : core < n) (h3 : i < 64) : rbadB n core i = false := by
  simp only [rbadB, Bool.or_eq_false_iff, decide_eq_false_iff_not]
  omega
set_option maxRecDepth 4000 in
theorem run_c {h n : Nat} {X : Ref} {L : RLay} {w : World} (H : RefAt h n X L w) (core : Int) (h1 : 0 ≤ core) (h2 : core < n) : Calls Try.prog 43 #[ptr h 0, vI core] w fun e w' => e = .returned (vI (runF X n core 64)) ∧ w' = w := by
  go_enter Try.func43, Try.ntmps43
  go_wp2
  go_loop [5, 6] (fun s5 s6 => ∃ i : Nat, i ≤ 64 ∧ s6 = .int .i64 i ∧ s5 = .int .i64 (runF X n core i)) (fun s5 s6 => 64 - (intOf s6).toNat)
  case atStart => exact ⟨0, Nat.zero_le _, rfl, rfl⟩
  case round =>
    obtain ⟨i, hi, rfl, rfl⟩ := hrel
    by_cases hlt : (i : Int) < 64
    · have hb := rbad_in (i := i) h1 h2 (by omega)
      obtain ⟨hr, hk⟩ := pos_in hb
      have hs := H.in8g hr hk
      have hF : runF X n core (i + 1) = if (X.get (posR n core i) (posK i)).a = true ∧ (X.get (posR n core i) (posK i)).own = core ∧ (X.get (posR n core i) (posK i)).was < runF X n core i then (X.get (posR n core i) (posK i)).was else runF X n core i := rfl
      have z3 := H.at hr hs 3 (by decide)
      have z6 := H.at hr hs 6 (by decide)
      have z7 := H.at hr hs 7 (by decide)
      generalize X.get (posR n core i) (posK i) = s at hs z3 z6 z7 hF
      replace z3 : w.cell? ⟨L.rb (posR n core i), posK i * 8 + 3, none⟩ = some (.bool s.a) := z3
      replace z6 : w.cell? ⟨L.rb (posR n core i), posK i * 8 + 6, none⟩ = some (vI s.own) := z6
      replace z7 : w.cell? ⟨L.rb (posR n core i), posK i * 8 + 7, none⟩ = some (vI s.was) := z7
      generalize hv : runF X n core i = v at hF
      replace hv := show Hid _ from hv
      clear hs
      by_cases ha : s.a = true
      · rw [ha] at z3
        by_cases ho : s.own = core
        · by_cases hw : s.was < v
          · rw [if_pos ⟨ha, ho, hw⟩] at hF
            replace hF := show Hid _ from hF
            replace ho := show Hid _ from ho
            rw [ho.out] at z6
            go_wp2_with (go_at_call 44; refine (of_c H core i hb).mono ?_; rintro e w' ⟨rfl, rfl⟩; dsimp only)
            go_round
            case rel => exact ⟨i + 1, by omega, by go_num, by rw [hF.out]⟩
            case measure => simp [intOf]; omega
          · rw [if_neg (fun e => hw e.2.2)] at hF
            replace hF := show Hid _ from hF
            replace ho := show Hid _ from ho
            rw [ho.out] at z6
            go_wp2_with (go_at_call 44; refine (of_c H core i hb).mono ?_; rintro e w' ⟨rfl, rfl⟩; dsimp only)
            go_round
            case rel => exact ⟨i + 1, by omega, by go_num, by rw [hF.out]⟩
            case measure => simp [intOf]; omega
        · rw [if_neg (fun e => ho e.2.1)] at hF
          replace hF := show Hid _ from hF
          go_wp2_with (go_at_call 44; refine (of_c H core i hb).mono ?_; rintro e w' ⟨rfl, rfl⟩; dsimp only)
          go_round
          case rel => exact ⟨i + 1, by omega, by go_num, by rw [hF.out]⟩
          case measure => simp [intOf]; omega
      · rw [if_neg (fun e => ha e.1)] at hF
        replace hF := show Hid _ from hF
        replace ha : s.a = false := by simpa using ha
        rw [ha] at z3
        go_wp2_with (go_at_call 44; refine (of_c H core i hb).mono ?_; rintro e w' ⟨rfl, rfl⟩; dsimp only)
        go_round
        case rel => exact ⟨i + 1, by omega, by go_num, by rw [hF.out]⟩
        case measure => simp [intOf]; omega
    · have hi64 : i = 64 := by omega
      subst hi64
      go_wp2
      go_ret
      exact ⟨rfl, rfl⟩
end Go.Proofs.Ytpmlehfnlodmbaa.Doc
