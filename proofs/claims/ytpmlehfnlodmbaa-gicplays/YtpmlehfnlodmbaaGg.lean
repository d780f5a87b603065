/- The document's own controller: Best. -/
import Derived.Test.YtpmlehfnlodmbaaGf
namespace Go.Proofs.Ytpmlehfnlodmbaa.Doc
open Go.RowKit
set_option linter.unusedVariables false
set_option linter.unusedSimpArgs false

/-- A world in which but the draws have gone on. -/
structure Alike (y w : World) : Prop where
  os : w.os = y.os
  tape : w.tape = y.tape
  output : w.output = y.output
  heap : w.heap = y.heap
theorem Alike.below {y w : World} (h : Alike y w) : Below y.heap.size y w := ⟨h.os, h.tape, h.output, by rw [h.heap]; exact Nat.le_refl _, fun _ _ => by rw [h.heap]⟩
theorem Alike.drew {y w : World} (h : Alike y w) (n : Nat) : Alike y (w.drewN n) := ⟨h.os, h.tape, h.output, h.heap⟩
theorem RefAt.alike {h n : Nat} {X : Ref} {L : RLay} {y w : World} (H : RefAt h n X L y) (A : Alike y w) : RefAt h n X L w := H.keep fun k _ => by rw [A.heap]
theorem of_q (h n : Nat) (X : Ref) (L : RLay) (core id : Int) (w : World) (H : RefAt h n X L w) (hb : rbadB n core id = false) : Calls Try.prog 44 #[ptr h 0, vI core, vI id] w fun e w' => e = .returned (ptr (L.rb (posR n core id)) (posK id * 8)) ∧ w' = w := of_c H core id hb
def candB (s : In8) (core run lim : Int) (i : Nat) : Bool := (s.l || s.h) && s.e && !s.a && (decide ((i : Int) < 32) || decide (s.core = core)) && decide (s.rank < lim) && decide (s.rank < run)
def Ref.of (X : Ref) (n : Nat) (core id : Int) : In8 := X.get (posR n core id) (posK id)
def bestF (X : Ref) (n : Nat) (core run lim : Int) : Nat → Int
  | 0 => -1
  | m + 1 => if candB (X.of n core m) core run lim m = true ∧ (bestF X n core run lim m < 0 ∨ (X.of n core m).rank < (X.of n core (bestF X n core run lim m)).rank) then (m : Int) else bestF X n core run lim m
theorem best_in (X : Ref) (n : Nat) (core run lim : Int) (m : Nat) : -1 ≤ bestF X n core run lim m ∧ bestF X n core run lim m < m := by
  induction m with
  | zero => exact ⟨Int.le_refl _, by rw [bestF]; omega⟩
  | succ m ih =>
    rw [bestF]
    split <;> omega
def limOf (X : Ref) (core : Int) : Int := (X.lims[core.toNat]?).getD 0
def bestV (X : Ref) (n : Nat) (core : Int) : Int := if rbadB n core 0 = true then -1 else bestF X n core (runF X n core 64) (limOf X core) 64
set_option maxRecDepth 8000 in
set_option maxHeartbeats 2000000 in
theorem best_walk {h n : Nat} {X : Ref} {L : RLay} {w : World} (H : RefAt h n X L w) (core : Int) (hb0 : rbadB n core 0 = false) : Calls Try.prog 42 #[ptr h 0, vI core] w fun e w' => e = .returned (.tuple (if bestV X n core < 0 then #[vI 0, .bool false] else #[vI (bestV X n core), .bool true])) ∧ Alike w w' := by
  have eV : bestV X n core = bestF X n core (runF X n core 64) (limOf X core) 64 := if_neg (by rw [hb0]; decide)
  rw [eV]
  clear eV
  obtain ⟨h1, h2, _, _⟩ := rbad_of hb0
  obtain ⟨c, rfl⟩ : ∃ c : Nat, core = (c : Int) := ⟨core.toNat, by omega⟩
  obtain ⟨lb, lcap, lim, el, hlv, _, _, _⟩ := H.limAt (c := c) (by omega)
  have eL : limOf X c = lim := by rw [limOf, Int.toNat_natCast, hlv]; rfl
  rw [eL]
  clear eL
  generalize hrun : runF X n c 64 = run
  replace hrun := show Hid _ from hrun
  go_enter Try.func42, Try.ntmps42
  go_wp2_with (first | (go_at_call 41; refine (rbad_c H c 0).mono ?_; rintro e w' ⟨rfl, rfl⟩; dsimp only; rw [hb0]) | (go_at_call 43; refine (run_c H c h1 h2).mono ?_; rintro e w' ⟨rfl, rfl⟩; dsimp only; rw [hrun.out]))
  go_loopw [8, 9] (fun s8 s9 wr => ∃ i : Nat, i ≤ 64 ∧ s8 = .int .i64 (bestF X n c run lim i) ∧ s9 = .int .i64 i ∧ Hid (Alike w' wr)) (fun s8 s9 _ => 64 - (intOf s9).toNat)
  case atStart => exact ⟨0, Nat.zero_le _, rfl, rfl, ⟨rfl, rfl, rfl, rfl⟩⟩
  case round =>
    obtain ⟨i, hi, rfl, rfl, hA⟩ := hrel
    by_cases hlt : (i : Int) < 64
    · have Hr := H.alike hA.out
      have hb := rbad_in (i := i) h1 h2 (by omega)
      obtain ⟨hr, hk⟩ := pos_in hb
      have hs := Hr.in8g hr hk
      have hF0 : bestF X n c run lim (i + 1) = if candB (X.of n c i) c run lim i = true ∧ (bestF X n c run lim i < 0 ∨ (X.of n c i).rank < (X.of n c (bestF X n c run lim i)).rank) then (i : Int) else bestF X n c run lim i := rfl
      obtain ⟨v1, v2⟩ := best_in X n c run lim i
      generalize bestF X n c run lim i = v at hF0 v1 v2 ⊢
      rw [Ref.of] at hF0
      have z0 := Hr.at hr hs 0 (by decide)
      have z1 := Hr.at hr hs 1 (by decide)
      have z2 := Hr.at hr hs 2 (by decide)
      have z3 := Hr.at hr hs 3 (by decide)
      have z4 := Hr.at hr hs 4 (by decide)
      have z5 := Hr.at hr hs 5 (by decide)
      generalize X.get (posR n c i) (posK i) = s at hs z0 z1 z2 z3 z4 z5 hF0
      generalize hR : posR n c i = r at hs z0 z1 z2 z3 z4 z5 hr
      generalize hK : posK i = k at hs z0 z1 z2 z3 z4 z5 hk
      replace hR := show Hid _ from hR
      replace hK := show Hid _ from hK
      rw [Nat.add_zero] at z0
      replace z0 : wr.cell? ⟨L.rb r, k * 8, none⟩ = some (.bool s.e) := z0
      replace z1 : wr.cell? ⟨L.rb r, k * 8 + 1, none⟩ = some (.bool s.l) := z1
      replace z2 : wr.cell? ⟨L.rb r, k * 8 + 2, none⟩ = some (.bool s.h) := z2
      replace z3 : wr.cell? ⟨L.rb r, k * 8 + 3, none⟩ = some (.bool s.a) := z3
      replace z4 : wr.cell? ⟨L.rb r, k * 8 + 4, none⟩ = some (vI s.rank) := z4
      replace z5 : wr.cell? ⟨L.rb r, k * 8 + 5, none⟩ = some (vI s.core) := z5
      obtain ⟨lb2, lcap2, lim2, el2, hlv2, zl, _, _⟩ := Hr.limAt (c := c) (by omega)
      obtain rfl : lim = lim2 := Option.some.inj (hlv.symm.trans hlv2)
      have c3 := Hr.c3
      rw [el2] at c3
      clear el2 hlv2
      cases hp : (s.l || s.h) with
      | false =>
        have hc0 : candB s c run lim i = false := by rw [candB, hp]; simp
        have hF : bestF X n c run lim (i + 1) = v := by rw [hF0, if_neg (fun e => by rw [hc0] at e; cases e.1)]
        clear hc0
        clear hF0
        replace hF := show Hid _ from hF
        go_upto_region 11 with (first | (go_at_call 44; refine (of_c Hr c i hb).mono ?_; rintro e w' ⟨rfl, rfl⟩; dsimp only; rw [hR.out, hK.out]) | (go_at_call 45; refine (pend_c z1 z2).mono ?_; rintro e w' ⟨rfl, rfl⟩; dsimp only; rw [hp]))
        go_quiet (fail)
        have A2 := hA.out.drew nq
        generalize World.drewN _ nq = w2 at A2 ⊢
        clear z0 z1 z2 z3 z4 z5 zl c3 Hr
        go_wp2
        go_roundw
        case rel => exact ⟨i + 1, by omega, by rw [hF.out], by go_num, A2⟩
        case measure => simp [intOf]; omega
      | true =>
        cases he : s.e with
        | false =>
          rw [he] at z0
          have hc0 : candB s c run lim i = false := by rw [candB, he]; simp
          have hF : bestF X n c run lim (i + 1) = v := by rw [hF0, if_neg (fun e => by rw [hc0] at e; cases e.1)]
          clear hc0
          clear hF0
          replace hF := show Hid _ from hF
          go_upto_region 11 with (first | (go_at_call 44; refine (of_c Hr c i hb).mono ?_; rintro e w' ⟨rfl, rfl⟩; dsimp only; rw [hR.out, hK.out]) | (go_at_call 45; refine (pend_c z1 z2).mono ?_; rintro e w' ⟨rfl, rfl⟩; dsimp only; rw [hp]))
          go_quiet (fail)
          have A2 := hA.out.drew nq
          generalize World.drewN _ nq = w2 at A2 ⊢
          clear z0 z1 z2 z3 z4 z5 zl c3 Hr
          go_wp2
          go_roundw
          case rel => exact ⟨i + 1, by omega, by rw [hF.out], by go_num, A2⟩
          case measure => simp [intOf]; omega
        | true =>
          cases ha : s.a with
          | true =>
            rw [ha] at z3
            rw [he] at z0
            have hc0 : candB s c run lim i = false := by rw [candB, ha]; simp
            have hF : bestF X n c run lim (i + 1) = v := by rw [hF0, if_neg (fun e => by rw [hc0] at e; cases e.1)]
            clear hc0
            clear hF0
            replace hF := show Hid _ from hF
            go_upto_region 11 with (first | (go_at_call 44; refine (of_c Hr c i hb).mono ?_; rintro e w' ⟨rfl, rfl⟩; dsimp only; rw [hR.out, hK.out]) | (go_at_call 45; refine (pend_c z1 z2).mono ?_; rintro e w' ⟨rfl, rfl⟩; dsimp only; rw [hp]))
            go_quiet (fail)
            have A2 := hA.out.drew nq
            generalize World.drewN _ nq = w2 at A2 ⊢
            clear z0 z1 z2 z3 z4 z5 zl c3 Hr
            go_wp2
            go_roundw
            case rel => exact ⟨i + 1, by omega, by rw [hF.out], by go_num, A2⟩
            case measure => simp [intOf]; omega
          | false =>
            rw [he] at z0
            rw [ha] at z3
            by_cases h32 : (i : Int) < 32
            · by_cases hl : s.rank < lim
              · by_cases hu : s.rank < run
                · have hcand : candB s c run lim i = true := by rw [candB, hp, he, ha, decide_eq_true hl, decide_eq_true hu, decide_eq_true h32]; rfl
                  have d32 : decide ((32 : Int) ≤ (i : Int)) = false := decide_eq_false (by omega)
                  have dl : decide (lim ≤ s.rank) = false := decide_eq_false (by omega)
                  have du : decide (run ≤ s.rank) = false := decide_eq_false (by omega)
                  go_upto_region 11 with (first | (go_at_call 44; refine (of_c Hr c i hb).mono ?_; rintro e w' ⟨rfl, rfl⟩; dsimp only; rw [hR.out, hK.out]) | (go_at_call 45; refine (pend_c z1 z2).mono ?_; rintro e w' ⟨rfl, rfl⟩; dsimp only; rw [hp]))
                  go_quiet (fail)
                  have A2 := hA.out.drew nq
                  generalize World.drewN _ nq = w2 at A2 ⊢
                  clear z0 z1 z2 z3 z4 z5 zl c3 Hr
                  have H2 := H.alike A2
                  have y4 : w2.cell? ⟨L.rb r, k * 8 + 4, none⟩ = some (vI s.rank) := H2.at hr hs 4 (by decide)
                  go_upto_region 12 with fail
                  by_cases hv0 : v < 0
                  · have hF : bestF X n c run lim (i + 1) = i := by rw [hF0, if_pos ⟨hcand, .inl hv0⟩]
                    clear hF0
                    replace hF := show Hid _ from hF
                    go_quiet (fail)
                    have A3 := A2.drew nq
                    generalize World.drewN _ nq = w3 at A3 ⊢
                    clear y4 H2
                    go_wp2
                    go_roundw
                    case rel => exact ⟨i + 1, by omega, by rw [hF.out], by go_num, A3⟩
                    case measure => simp [intOf]; omega
                  · obtain ⟨m, hm⟩ : ∃ m : Nat, v = m := ⟨v.toNat, by omega⟩
                    subst hm
                    have hbm := rbad_in (i := m) h1 h2 (by omega)
                    obtain ⟨hrm, hkm⟩ := pos_in hbm
                    have hsm := H2.in8g hrm hkm
                    have ym : w2.cell? ⟨L.rb (posR n c m), posK m * 8 + 4, none⟩ = some (vI (X.of n c m).rank) := H2.at hrm hsm 4 (by decide)
                    generalize X.of n c m = sm at hF0 ym
                    by_cases hlt2 : s.rank < sm.rank
                    · have hF : bestF X n c run lim (i + 1) = i := by rw [hF0, if_pos ⟨hcand, .inr hlt2⟩]
                      clear hF0
                      replace hF := show Hid _ from hF
                      go_quiet ((go_at_call 44; exact Calls.quiet_of_same (of_q h n X L (c : Int) (m : Int) _ (H2.keep fun _ _ => rfl) hbm)))
                      have A3 := A2.drew nq
                      generalize World.drewN _ nq = w3 at A3 ⊢
                      clear y4 ym H2
                      go_wp2
                      go_roundw
                      case rel => exact ⟨i + 1, by omega, by rw [hF.out], by go_num, A3⟩
                      case measure => simp [intOf]; omega
                    · have hF : bestF X n c run lim (i + 1) = m := by rw [hF0, if_neg (fun e => e.2.elim hv0 hlt2)]
                      clear hF0
                      replace hF := show Hid _ from hF
                      go_quiet ((go_at_call 44; exact Calls.quiet_of_same (of_q h n X L (c : Int) (m : Int) _ (H2.keep fun _ _ => rfl) hbm)))
                      have A3 := A2.drew nq
                      generalize World.drewN _ nq = w3 at A3 ⊢
                      clear y4 ym H2
                      go_wp2
                      go_roundw
                      case rel => exact ⟨i + 1, by omega, by rw [hF.out], by go_num, A3⟩
                      case measure => simp [intOf]; omega
                · have d32 : decide ((32 : Int) ≤ (i : Int)) = false := decide_eq_false (by omega)
                  have dl : decide (lim ≤ s.rank) = false := decide_eq_false (by omega)
                  have du : decide (run ≤ s.rank) = true := decide_eq_true (by omega)
                  have hc0 : candB s c run lim i = false := by rw [candB, decide_eq_false hu]; simp
                  have hF : bestF X n c run lim (i + 1) = v := by rw [hF0, if_neg (fun e => by rw [hc0] at e; cases e.1)]
                  clear hc0
                  clear hF0
                  replace hF := show Hid _ from hF
                  go_upto_region 11 with (first | (go_at_call 44; refine (of_c Hr c i hb).mono ?_; rintro e w' ⟨rfl, rfl⟩; dsimp only; rw [hR.out, hK.out]) | (go_at_call 45; refine (pend_c z1 z2).mono ?_; rintro e w' ⟨rfl, rfl⟩; dsimp only; rw [hp]))
                  go_quiet (fail)
                  have A2 := hA.out.drew nq
                  generalize World.drewN _ nq = w2 at A2 ⊢
                  clear z0 z1 z2 z3 z4 z5 zl c3 Hr
                  go_wp2
                  go_roundw
                  case rel => exact ⟨i + 1, by omega, by rw [hF.out], by go_num, A2⟩
                  case measure => simp [intOf]; omega
              · have d32 : decide ((32 : Int) ≤ (i : Int)) = false := decide_eq_false (by omega)
                have dl : decide (lim ≤ s.rank) = true := decide_eq_true (by omega)
                have hc0 : candB s c run lim i = false := by rw [candB, decide_eq_false hl]; simp
                have hF : bestF X n c run lim (i + 1) = v := by rw [hF0, if_neg (fun e => by rw [hc0] at e; cases e.1)]
                clear hc0
                clear hF0
                replace hF := show Hid _ from hF
                go_upto_region 11 with (first | (go_at_call 44; refine (of_c Hr c i hb).mono ?_; rintro e w' ⟨rfl, rfl⟩; dsimp only; rw [hR.out, hK.out]) | (go_at_call 45; refine (pend_c z1 z2).mono ?_; rintro e w' ⟨rfl, rfl⟩; dsimp only; rw [hp]))
                go_quiet (fail)
                have A2 := hA.out.drew nq
                generalize World.drewN _ nq = w2 at A2 ⊢
                clear z0 z1 z2 z3 z4 z5 zl c3 Hr
                go_wp2
                go_roundw
                case rel => exact ⟨i + 1, by omega, by rw [hF.out], by go_num, A2⟩
                case measure => simp [intOf]; omega
            · by_cases hco : s.core = c
              · rw [hco] at z5
                by_cases hl : s.rank < lim
                · by_cases hu : s.rank < run
                  · have hcand : candB s c run lim i = true := by rw [candB, hp, he, ha, decide_eq_true hl, decide_eq_true hu, decide_eq_true hco, Bool.or_true]; rfl
                    replace hco := show Hid _ from hco
                    have d32 : decide ((32 : Int) ≤ (i : Int)) = true := decide_eq_true (by omega)
                    have dl : decide (lim ≤ s.rank) = false := decide_eq_false (by omega)
                    have du : decide (run ≤ s.rank) = false := decide_eq_false (by omega)
                    go_upto_region 11 with (first | (go_at_call 44; refine (of_c Hr c i hb).mono ?_; rintro e w' ⟨rfl, rfl⟩; dsimp only; rw [hR.out, hK.out]) | (go_at_call 45; refine (pend_c z1 z2).mono ?_; rintro e w' ⟨rfl, rfl⟩; dsimp only; rw [hp]))
                    go_quiet (fail)
                    have A2 := hA.out.drew nq
                    generalize World.drewN _ nq = w2 at A2 ⊢
                    clear z0 z1 z2 z3 z4 z5 zl c3 Hr
                    have H2 := H.alike A2
                    have y4 : w2.cell? ⟨L.rb r, k * 8 + 4, none⟩ = some (vI s.rank) := H2.at hr hs 4 (by decide)
                    go_upto_region 12 with fail
                    by_cases hv0 : v < 0
                    · have hF : bestF X n c run lim (i + 1) = i := by rw [hF0, if_pos ⟨hcand, .inl hv0⟩]
                      clear hF0
                      replace hF := show Hid _ from hF
                      go_quiet (fail)
                      have A3 := A2.drew nq
                      generalize World.drewN _ nq = w3 at A3 ⊢
                      clear y4 H2
                      go_wp2
                      go_roundw
                      case rel => exact ⟨i + 1, by omega, by rw [hF.out], by go_num, A3⟩
                      case measure => simp [intOf]; omega
                    · obtain ⟨m, hm⟩ : ∃ m : Nat, v = m := ⟨v.toNat, by omega⟩
                      subst hm
                      have hbm := rbad_in (i := m) h1 h2 (by omega)
                      obtain ⟨hrm, hkm⟩ := pos_in hbm
                      have hsm := H2.in8g hrm hkm
                      have ym : w2.cell? ⟨L.rb (posR n c m), posK m * 8 + 4, none⟩ = some (vI (X.of n c m).rank) := H2.at hrm hsm 4 (by decide)
                      generalize X.of n c m = sm at hF0 ym
                      by_cases hlt2 : s.rank < sm.rank
                      · have hF : bestF X n c run lim (i + 1) = i := by rw [hF0, if_pos ⟨hcand, .inr hlt2⟩]
                        clear hF0
                        replace hF := show Hid _ from hF
                        go_quiet ((go_at_call 44; exact Calls.quiet_of_same (of_q h n X L (c : Int) (m : Int) _ (H2.keep fun _ _ => rfl) hbm)))
                        have A3 := A2.drew nq
                        generalize World.drewN _ nq = w3 at A3 ⊢
                        clear y4 ym H2
                        go_wp2
                        go_roundw
                        case rel => exact ⟨i + 1, by omega, by rw [hF.out], by go_num, A3⟩
                        case measure => simp [intOf]; omega
                      · have hF : bestF X n c run lim (i + 1) = m := by rw [hF0, if_neg (fun e => e.2.elim hv0 hlt2)]
                        clear hF0
                        replace hF := show Hid _ from hF
                        go_quiet ((go_at_call 44; exact Calls.quiet_of_same (of_q h n X L (c : Int) (m : Int) _ (H2.keep fun _ _ => rfl) hbm)))
                        have A3 := A2.drew nq
                        generalize World.drewN _ nq = w3 at A3 ⊢
                        clear y4 ym H2
                        go_wp2
                        go_roundw
                        case rel => exact ⟨i + 1, by omega, by rw [hF.out], by go_num, A3⟩
                        case measure => simp [intOf]; omega
                  · replace hco := show Hid _ from hco
                    have d32 : decide ((32 : Int) ≤ (i : Int)) = true := decide_eq_true (by omega)
                    have dl : decide (lim ≤ s.rank) = false := decide_eq_false (by omega)
                    have du : decide (run ≤ s.rank) = true := decide_eq_true (by omega)
                    have hc0 : candB s c run lim i = false := by rw [candB, decide_eq_false hu]; simp
                    have hF : bestF X n c run lim (i + 1) = v := by rw [hF0, if_neg (fun e => by rw [hc0] at e; cases e.1)]
                    clear hc0
                    clear hF0
                    replace hF := show Hid _ from hF
                    go_upto_region 11 with (first | (go_at_call 44; refine (of_c Hr c i hb).mono ?_; rintro e w' ⟨rfl, rfl⟩; dsimp only; rw [hR.out, hK.out]) | (go_at_call 45; refine (pend_c z1 z2).mono ?_; rintro e w' ⟨rfl, rfl⟩; dsimp only; rw [hp]))
                    go_quiet (fail)
                    have A2 := hA.out.drew nq
                    generalize World.drewN _ nq = w2 at A2 ⊢
                    clear z0 z1 z2 z3 z4 z5 zl c3 Hr
                    go_wp2
                    go_roundw
                    case rel => exact ⟨i + 1, by omega, by rw [hF.out], by go_num, A2⟩
                    case measure => simp [intOf]; omega
                · replace hco := show Hid _ from hco
                  have d32 : decide ((32 : Int) ≤ (i : Int)) = true := decide_eq_true (by omega)
                  have dl : decide (lim ≤ s.rank) = true := decide_eq_true (by omega)
                  have hc0 : candB s c run lim i = false := by rw [candB, decide_eq_false hl]; simp
                  have hF : bestF X n c run lim (i + 1) = v := by rw [hF0, if_neg (fun e => by rw [hc0] at e; cases e.1)]
                  clear hc0
                  clear hF0
                  replace hF := show Hid _ from hF
                  go_upto_region 11 with (first | (go_at_call 44; refine (of_c Hr c i hb).mono ?_; rintro e w' ⟨rfl, rfl⟩; dsimp only; rw [hR.out, hK.out]) | (go_at_call 45; refine (pend_c z1 z2).mono ?_; rintro e w' ⟨rfl, rfl⟩; dsimp only; rw [hp]))
                  go_quiet (fail)
                  have A2 := hA.out.drew nq
                  generalize World.drewN _ nq = w2 at A2 ⊢
                  clear z0 z1 z2 z3 z4 z5 zl c3 Hr
                  go_wp2
                  go_roundw
                  case rel => exact ⟨i + 1, by omega, by rw [hF.out], by go_num, A2⟩
                  case measure => simp [intOf]; omega
              · have d32 : decide ((32 : Int) ≤ (i : Int)) = true := decide_eq_true (by omega)
                have dco1 : (s.core == (c : Int)) = false := by simpa using hco
                have dco2 : (s.core != (c : Int)) = true := by simpa using hco
                have hc0 : candB s c run lim i = false := by rw [candB, decide_eq_false h32, decide_eq_false hco]; simp
                have hF : bestF X n c run lim (i + 1) = v := by rw [hF0, if_neg (fun e => by rw [hc0] at e; cases e.1)]
                clear hc0
                clear hF0
                replace hF := show Hid _ from hF
                go_upto_region 11 with (first | (go_at_call 44; refine (of_c Hr c i hb).mono ?_; rintro e w' ⟨rfl, rfl⟩; dsimp only; rw [hR.out, hK.out]) | (go_at_call 45; refine (pend_c z1 z2).mono ?_; rintro e w' ⟨rfl, rfl⟩; dsimp only; rw [hp]))
                go_quiet (fail)
                have A2 := hA.out.drew nq
                generalize World.drewN _ nq = w2 at A2 ⊢
                clear z0 z1 z2 z3 z4 z5 zl c3 Hr
                go_wp2
                go_roundw
                case rel => exact ⟨i + 1, by omega, by rw [hF.out], by go_num, A2⟩
                case measure => simp [intOf]; omega
    · have hi64 : i = 64 := by omega
      by_cases hv : bestF X n c run lim i < 0
      · have hv2 := hv
        rw [hi64] at hv2
        replace hi64 := show Hid _ from hi64
        go_wp2
        go_ret2
        exact ⟨rfl, hA.out⟩
      · have hv2 := hv
        rw [hi64] at hv2
        replace hi64 := show Hid _ from hi64
        go_wp2
        go_ret2
        have e := hi64.out
        subst e
        exact ⟨rfl, hA.out⟩
end Go.Proofs.Ytpmlehfnlodmbaa.Doc
