/- A core takes an interrupt only if it may, and always takes one that it may: the walk. -/
import Derived.Test.YtpmlehfnlodmbaaKd
namespace Go.Proofs.Ytpmlehfnlodmbaa
open Go.RowKit
set_option linter.unusedVariables false
set_option linter.unusedSimpArgs false
set_option maxRecDepth 8000

theorem has_nat {n c : Nat} (h : c < n) : hasB n (c : Int) = true := by simp [hasB]; omega
theorem bad_nat {n c : Nat} {i : Int} (h : c < n) (h0 : 0 ≤ i) (h1 : i < 64) : badB n (c : Int) i = false := by
  rw [badB, has_nat h]; simp; omega
theorem lim_nat {n c : Nat} {P : Pg} (h : c < n) : limV n P c = P.lim c := by rw [limV, has_nat h, if_pos rfl, Int.toNat_natCast]
theorem run_nat {n c : Nat} {P : Pg} (h : c < n) : runC n P c = runV (P.wk c) := by rw [runC, has_nat h, if_pos rfl, Int.toNat_natCast]
theorem next_nat {n c : Nat} {P : Pg} (h : c < n) : nextV n P c = bstF n P c 64 := by rw [nextV, has_nat h, if_pos rfl, Int.toNat_natCast]
theorem look_nat {n c : Nat} {P : Pg} {i : Int} (h : c < n) (h0 : 0 ≤ i) (h1 : i < 64) : lookV n P c i = P.src (pr n c i) (pk i) := by rw [lookV, bad_nat h h0 h1, if_neg (by decide)]
theorem look_shared {n c d : Nat} {P : Pg} {i : Int} (h : c < n) (hd : d < n) (h0 : 32 ≤ i) (h1 : i < 64) : lookV n P c i = lookV n P d i := by
  rw [look_nat h (by omega) h1, look_nat hd (by omega) h1, pr, pr, if_pos h0, if_pos h0]
def bestI (n : Nat) (P : Pg) (c i : Nat) : Int := match bstF n P c i with | none => -1 | some t => t.id
theorem best_skip {n : Nat} {P : Pg} {c i : Nat} (h : candB n P c i = false) : bestI n P c (i + 1) = bestI n P c i := by
  rw [bestI, bestI, bstF, h, if_neg (by decide)]
theorem cand_and {n : Nat} {P : Pg} {c i : Nat} {s : Src} (hs : lookV n P c i = s) : candB n P c i = (waitB s && !awayB c i s && decide (s.rank < minV (P.lim c) (runV (P.wk c)))) := by rw [candB, hs]
theorem min_lt {a b r : Int} : r < minV a b ↔ r < a ∧ r < b := by
  unfold minV; split <;> omega
/-- Behind Ack. -/
theorem ack_look {n : Nat} {P : Pg} {c k : Nat} {t : Trn} (hc : c < n) (hN : nextV n P c = some t) (hk : t.id = k) (h64 : k < 64) : lookV n (ackP n P c) c k = { lookV n P c k with l := false, a := true } := by
  have e : ackP n P c = (P.put (pr n c t.id) (pk t.id) { P.src (pr n c t.id) (pk t.id) with l := false, a := true }).setWk c (P.wk c ++ [t]) := by rw [ackP, hN]; rfl
  rw [e, look_nat hc (by omega) (by omega), look_nat hc (by omega) (by omega), hk]
  show (P.put _ _ _).src _ _ = _
  rw [put_src]
theorem ack_run {n : Nat} {P : Pg} {c : Nat} {t : Trn} (hN : nextV n P c = some t) : runV ((ackP n P c).wk c) = t.rank := by
  have e : ackP n P c = (P.put (pr n c t.id) (pk t.id) { P.src (pr n c t.id) (pk t.id) with l := false, a := true }).setWk c (P.wk c ++ [t]) := by rw [ackP, hN]; rfl
  rw [e]
  show runV (if c = c then P.wk c ++ [t] else _) = _
  rw [if_pos rfl, runV_app]
set_option maxHeartbeats 4000000 in
theorem takes_walk (v : Value) (ss : List St5) (core : Int) (W : World) (R : Scr W v ss) (hI : I64 core) : Calls Try.prog 4 #[v, vI core] W fun e w' => e = .returned (.bool true) ∧ Below W.heap.size W w' := by
  go_enter Try.func4, Try.ntmps4
  go_upto_region 2 with (first | (go_at_call 9; refine (known_c W).mono ?_; rintro e w1 ⟨rfl, hB1⟩; dsimp only))
  have hmade := made_c R hB1
  go_upto_region 5 with (first | (go_at_call 14; refine hmade.mono ?_; rintro e w2 ⟨g, rfl, L, K⟩; dsimp only))
  clear hmade
  have hlen : ∀ c, c < 3 → ((plP 3 newP ss (min ss.length 100)).wk c).length + 1 < 1000000 := fun c hc => by have := pl_len 3 newP ss c (min ss.length 100); have e : (newP.wk c).length = 0 := rfl; omega
  generalize plP 3 newP ss (min ss.length 100) = P at K hlen
  have B2 : Below W.heap.size W w2 := below_then hB1 (Nat.le_refl _) K.below
  have H := K.at_
  have hfoot : ∀ k, GFoot g 3 L k → W.heap.size ≤ k := fun k hk => Nat.le_trans hB1.size (K.foot k hk)
  clear K hB1 R
  have hcp := pick_lt (c := core) (n := 3) (by decide)
  have hpick := gpick_c core 3 (by decide) (by decide) ⟨hI.1, by have := hI.2; omega⟩ w2
  generalize pickV core 3 = c at hcp hpick
  have hL := limit_c H c
  have hR := fun w' (hb : Below w2.heap.size w2 w') => grun_c (H.grow hb) c
  rw [lim_nat hcp] at hL
  simp only [run_nat hcp] at hR
  go_upto_region 8 with (first | (go_at_call 15; refine hpick.mono ?_; rintro e w' ⟨rfl, rfl⟩; dsimp only) | (go_at_call 16; refine hL.mono ?_; rintro e w3 ⟨rfl, hB3⟩; dsimp only) | (go_at_call 17; refine (hR _ hB3).mono ?_; rintro e w4 ⟨rfl, hB4⟩; dsimp only))
  have H4 := H.grow (below_then hB3 (Nat.le_refl _) hB4)
  have B4 : Below W.heap.size W w4 := below_then B2 (Nat.le_refl _) (below_then hB3 (Nat.le_refl _) hB4)
  clear hB3 hB4 hpick hL hR H B2
  go_wp2
  go_loopw [10, 11] (fun s10 s11 wr => ∃ i : Nat, i ≤ 64 ∧ s11 = .int .i64 i ∧ s10 = .int .i64 (bestI 3 P c i) ∧ Hid (Below w4.heap.size w4 wr)) (fun _ s11 _ => 64 - (intOf s11).toNat)
  case atStart => exact ⟨0, Nat.zero_le _, rfl, rfl, Below.refl _ _⟩
  case round =>
    obtain ⟨i, hi, rfl, rfl, hH⟩ := hrel
    have hB := hH.out
    clear hH
    by_cases hlt : (i : Int) < 64
    · obtain ⟨s, hs⟩ : ∃ s, lookV 3 P c i = s := ⟨_, rfl⟩
      have hRt : ∀ w', Below w4.heap.size w4 w' → Calls Try.prog 18 #[ptr g 0, vI c, vI i] w' fun e w'' => e = .returned (vI s.rank) ∧ Below w'.heap.size w' w'' := fun w' hb => by rw [← hs]; exact rate_c (H4.grow hb) c i
      have hEn : ∀ w', Below w4.heap.size w4 w' → Calls Try.prog 19 #[ptr g 0, vI c, vI i] w' fun e w'' => e = .returned (.bool s.e) ∧ Below w'.heap.size w' w'' := fun w' hb => by rw [← hs]; exact enabled_c (H4.grow hb) c i
      have hPe : ∀ w', Below w4.heap.size w4 w' → Calls Try.prog 20 #[ptr g 0, vI c, vI i] w' fun e w'' => e = .returned (.bool (s.l || s.h)) ∧ Below w'.heap.size w' w'' := fun w' hb => by rw [← hs]; exact pending_c (H4.grow hb) c i
      have hAc : ∀ w', Below w4.heap.size w4 w' → Calls Try.prog 21 #[ptr g 0, vI c, vI i] w' fun e w'' => e = .returned (.bool s.a) ∧ Below w'.heap.size w' w'' := fun w' hb => by rw [← hs]; exact active_c (H4.grow hb) c i
      have hcand := cand_and hs
      go_upto_region 13 with (first | (go_at_call 18; refine (hRt _ hB).mono ?_; rintro e w5 ⟨rfl, hb⟩; dsimp only; replace hB := below_then hB (Nat.le_refl _) hb; clear hb))
      clear hRt
      cases he : s.e with
      | false =>
        go_wp2_with (first | (go_at_call 19; refine (hEn _ hB).mono ?_; rintro e w5 ⟨rfl, hb⟩; dsimp only; rw [he]; replace hB := below_then hB (Nat.le_refl _) hb; clear hb) | (go_at_call 20; refine (hPe _ hB).mono ?_; rintro e w5 ⟨rfl, hb⟩; dsimp only; rw [hp]; replace hB := below_then hB (Nat.le_refl _) hb; clear hb) | (go_at_call 21; refine (hAc _ hB).mono ?_; rintro e w5 ⟨rfl, hb⟩; dsimp only; rw [ha]; replace hB := below_then hB (Nat.le_refl _) hb; clear hb) | (go_at_call 22; refine (hGo _ hB).mono ?_; rintro e w5 ⟨rfl, hb⟩; dsimp only; replace hB := below_then hB (Nat.le_refl _) hb; clear hb))
        go_roundw
        case rel => exact ⟨i + 1, by omega, by go_num, by rw [best_skip (by rw [hcand, waitB, he]; rfl)], hB⟩
        case measure => simp [intOf]; omega
      | true =>
        cases hp : (s.l || s.h) with
        | false =>
          go_wp2_with (first | (go_at_call 19; refine (hEn _ hB).mono ?_; rintro e w5 ⟨rfl, hb⟩; dsimp only; rw [he]; replace hB := below_then hB (Nat.le_refl _) hb; clear hb) | (go_at_call 20; refine (hPe _ hB).mono ?_; rintro e w5 ⟨rfl, hb⟩; dsimp only; rw [hp]; replace hB := below_then hB (Nat.le_refl _) hb; clear hb) | (go_at_call 21; refine (hAc _ hB).mono ?_; rintro e w5 ⟨rfl, hb⟩; dsimp only; rw [ha]; replace hB := below_then hB (Nat.le_refl _) hb; clear hb) | (go_at_call 22; refine (hGo _ hB).mono ?_; rintro e w5 ⟨rfl, hb⟩; dsimp only; replace hB := below_then hB (Nat.le_refl _) hb; clear hb))
          go_roundw
          case rel => exact ⟨i + 1, by omega, by go_num, by rw [best_skip (by rw [hcand, waitB, he, hp]; rfl)], hB⟩
          case measure => simp [intOf]; omega
        | true =>
          cases ha : s.a with
          | true =>
            go_wp2_with (first | (go_at_call 19; refine (hEn _ hB).mono ?_; rintro e w5 ⟨rfl, hb⟩; dsimp only; rw [he]; replace hB := below_then hB (Nat.le_refl _) hb; clear hb) | (go_at_call 20; refine (hPe _ hB).mono ?_; rintro e w5 ⟨rfl, hb⟩; dsimp only; rw [hp]; replace hB := below_then hB (Nat.le_refl _) hb; clear hb) | (go_at_call 21; refine (hAc _ hB).mono ?_; rintro e w5 ⟨rfl, hb⟩; dsimp only; rw [ha]; replace hB := below_then hB (Nat.le_refl _) hb; clear hb) | (go_at_call 22; refine (hGo _ hB).mono ?_; rintro e w5 ⟨rfl, hb⟩; dsimp only; replace hB := below_then hB (Nat.le_refl _) hb; clear hb))
            go_roundw
            case rel => exact ⟨i + 1, by omega, by go_num, by rw [best_skip (by rw [hcand, waitB, he, hp, ha]; rfl)], hB⟩
            case measure => simp [intOf]; omega
          | false =>
            have hw : waitB s = true := by rw [waitB, he, hp, ha]; rfl
            by_cases h32 : 32 ≤ (i : Int)
            · have hGo : ∀ w', Below w4.heap.size w4 w' → Calls Try.prog 22 #[ptr g 0, vI i] w' fun e w'' => e = .returned (vI s.goes) ∧ Below w'.heap.size w' w'' := fun w' hb => by
                have h0 := goes_c (H4.grow hb) i
                have e0 : lookV 3 P 0 i = s := by rw [← hs]; exact look_shared (c := 0) (d := c) (by decide) hcp h32 hlt
                rw [e0] at h0
                exact h0
              cases hg : (s.goes != (c : Int)) with
              | true =>
                go_wp2_with (first | (go_at_call 19; refine (hEn _ hB).mono ?_; rintro e w5 ⟨rfl, hb⟩; dsimp only; rw [he]; replace hB := below_then hB (Nat.le_refl _) hb; clear hb) | (go_at_call 20; refine (hPe _ hB).mono ?_; rintro e w5 ⟨rfl, hb⟩; dsimp only; rw [hp]; replace hB := below_then hB (Nat.le_refl _) hb; clear hb) | (go_at_call 21; refine (hAc _ hB).mono ?_; rintro e w5 ⟨rfl, hb⟩; dsimp only; rw [ha]; replace hB := below_then hB (Nat.le_refl _) hb; clear hb) | (go_at_call 22; refine (hGo _ hB).mono ?_; rintro e w5 ⟨rfl, hb⟩; dsimp only; replace hB := below_then hB (Nat.le_refl _) hb; clear hb))
                go_roundw
                case rel => exact ⟨i + 1, by omega, by go_num, by rw [best_skip (by rw [hcand, hw, awayB, decide_eq_true h32, hg]; rfl)], hB⟩
                case measure => simp [intOf]; omega
              | false =>
                have haw : awayB c i s = false := by rw [awayB, hg, Bool.and_false]
                have hgi : s.goes = (c : Int) := by simpa using hg
                replace hgi := show Hid _ from hgi
                by_cases hl1 : P.lim c ≤ s.rank
                · go_wp2_with (first | (go_at_call 19; refine (hEn _ hB).mono ?_; rintro e w5 ⟨rfl, hb⟩; dsimp only; rw [he]; replace hB := below_then hB (Nat.le_refl _) hb; clear hb) | (go_at_call 20; refine (hPe _ hB).mono ?_; rintro e w5 ⟨rfl, hb⟩; dsimp only; rw [hp]; replace hB := below_then hB (Nat.le_refl _) hb; clear hb) | (go_at_call 21; refine (hAc _ hB).mono ?_; rintro e w5 ⟨rfl, hb⟩; dsimp only; rw [ha]; replace hB := below_then hB (Nat.le_refl _) hb; clear hb) | (go_at_call 22; refine (hGo _ hB).mono ?_; rintro e w5 ⟨rfl, hb⟩; dsimp only; replace hB := below_then hB (Nat.le_refl _) hb; clear hb))
                  go_roundw
                  case rel => exact ⟨i + 1, by omega, by go_num, by rw [best_skip (by rw [hcand, hw, haw, decide_eq_false (fun h => by have := (min_lt.1 h).1; omega)]; rfl)], hB⟩
                  case measure => simp [intOf]; omega
                · by_cases hl2 : runV (P.wk c) ≤ s.rank
                  · go_wp2_with (first | (go_at_call 19; refine (hEn _ hB).mono ?_; rintro e w5 ⟨rfl, hb⟩; dsimp only; rw [he]; replace hB := below_then hB (Nat.le_refl _) hb; clear hb) | (go_at_call 20; refine (hPe _ hB).mono ?_; rintro e w5 ⟨rfl, hb⟩; dsimp only; rw [hp]; replace hB := below_then hB (Nat.le_refl _) hb; clear hb) | (go_at_call 21; refine (hAc _ hB).mono ?_; rintro e w5 ⟨rfl, hb⟩; dsimp only; rw [ha]; replace hB := below_then hB (Nat.le_refl _) hb; clear hb) | (go_at_call 22; refine (hGo _ hB).mono ?_; rintro e w5 ⟨rfl, hb⟩; dsimp only; replace hB := below_then hB (Nat.le_refl _) hb; clear hb))
                    go_roundw
                    case rel => exact ⟨i + 1, by omega, by go_num, by rw [best_skip (by rw [hcand, hw, haw, decide_eq_false (fun h => by have := (min_lt.1 h).2; omega)]; rfl)], hB⟩
                    case measure => simp [intOf]; omega
                  · have hc1 : candB 3 P c i = true := by rw [hcand, hw, haw, decide_eq_true (min_lt.2 ⟨by omega, by omega⟩)]; rfl
                    go_upto_region 14 with (first | (go_at_call 19; refine (hEn _ hB).mono ?_; rintro e w5 ⟨rfl, hb⟩; dsimp only; rw [he]; replace hB := below_then hB (Nat.le_refl _) hb; clear hb) | (go_at_call 20; refine (hPe _ hB).mono ?_; rintro e w5 ⟨rfl, hb⟩; dsimp only; rw [hp]; replace hB := below_then hB (Nat.le_refl _) hb; clear hb) | (go_at_call 21; refine (hAc _ hB).mono ?_; rintro e w5 ⟨rfl, hb⟩; dsimp only; rw [ha]; replace hB := below_then hB (Nat.le_refl _) hb; clear hb) | (go_at_call 22; refine (hGo _ hB).mono ?_; rintro e w5 ⟨rfl, hb⟩; dsimp only; replace hB := below_then hB (Nat.le_refl _) hb; clear hb))
                    clear hEn hPe hAc
                    cases hb0 : bstF 3 P c i with
                    | none =>
                      have e0 : bestI 3 P c i = -1 := by rw [bestI, hb0]
                      have e1 : bestI 3 P c (i + 1) = i := by rw [bestI, bstF, hc1, if_pos rfl, hb0]
                      rw [e0]
                      replace e1 := show Hid _ from e1
                      clear e0 hb0
                      go_wp2
                      go_roundw
                      case rel => exact ⟨i + 1, by omega, by go_num, by rw [e1.out], hB⟩
                      case measure => simp [intOf]; omega
                    | some t =>
                      have e0 : bestI 3 P c i = t.id := by rw [bestI, hb0]
                      obtain ⟨⟨k0, g1, _, g3⟩, _⟩ := bst_some i t hb0
                      have hid : t.id = k0 := by rw [g3]
                      have hrk : (lookV 3 P c k0).rank = t.rank := by rw [g3]
                      have hRk : ∀ w', Below w4.heap.size w4 w' → Calls Try.prog 18 #[ptr g 0, vI c, vI t.id] w' fun e w'' => e = .returned (vI t.rank) ∧ Below w'.heap.size w' w'' := fun w' hb => by rw [← hrk, hid]; exact rate_c (H4.grow hb) c k0
                      have h0 : 0 ≤ t.id := by omega
                      rw [e0]
                      clear e0 hid hrk g3
                      by_cases hlr : s.rank < t.rank
                      · have e1 : bestI 3 P c (i + 1) = i := by rw [bestI, bstF, hc1, if_pos rfl, hb0, hs]; dsimp only; rw [if_pos hlr]
                        replace e1 := show Hid _ from e1
                        go_wp2_with (first | (go_at_call 18; refine (hRk _ hB).mono ?_; rintro e w5 ⟨rfl, hb⟩; dsimp only; replace hB := below_then hB (Nat.le_refl _) hb; clear hb))
                        go_roundw
                        case rel => exact ⟨i + 1, by omega, by go_num, by rw [e1.out], hB⟩
                        case measure => simp [intOf]; omega
                      · have e1 : bestI 3 P c (i + 1) = t.id := by rw [bestI, bstF, hc1, if_pos rfl, hb0, hs]; dsimp only; rw [if_neg hlr]
                        replace e1 := show Hid _ from e1
                        go_wp2_with (first | (go_at_call 18; refine (hRk _ hB).mono ?_; rintro e w5 ⟨rfl, hb⟩; dsimp only; replace hB := below_then hB (Nat.le_refl _) hb; clear hb))
                        go_roundw
                        case rel => exact ⟨i + 1, by omega, by go_num, by rw [e1.out], hB⟩
                        case measure => simp [intOf]; omega
            · have haw : awayB c i s = false := by rw [awayB, decide_eq_false h32]; rfl
              have h32' : decide (32 ≤ (i : Int)) = false := decide_eq_false h32
              by_cases hl1 : P.lim c ≤ s.rank
              · go_wp2_with (first | (go_at_call 19; refine (hEn _ hB).mono ?_; rintro e w5 ⟨rfl, hb⟩; dsimp only; rw [he]; replace hB := below_then hB (Nat.le_refl _) hb; clear hb) | (go_at_call 20; refine (hPe _ hB).mono ?_; rintro e w5 ⟨rfl, hb⟩; dsimp only; rw [hp]; replace hB := below_then hB (Nat.le_refl _) hb; clear hb) | (go_at_call 21; refine (hAc _ hB).mono ?_; rintro e w5 ⟨rfl, hb⟩; dsimp only; rw [ha]; replace hB := below_then hB (Nat.le_refl _) hb; clear hb) | (go_at_call 22; refine (hGo _ hB).mono ?_; rintro e w5 ⟨rfl, hb⟩; dsimp only; replace hB := below_then hB (Nat.le_refl _) hb; clear hb))
                go_roundw
                case rel => exact ⟨i + 1, by omega, by go_num, by rw [best_skip (by rw [hcand, hw, haw, decide_eq_false (fun h => by have := (min_lt.1 h).1; omega)]; rfl)], hB⟩
                case measure => simp [intOf]; omega
              · by_cases hl2 : runV (P.wk c) ≤ s.rank
                · go_wp2_with (first | (go_at_call 19; refine (hEn _ hB).mono ?_; rintro e w5 ⟨rfl, hb⟩; dsimp only; rw [he]; replace hB := below_then hB (Nat.le_refl _) hb; clear hb) | (go_at_call 20; refine (hPe _ hB).mono ?_; rintro e w5 ⟨rfl, hb⟩; dsimp only; rw [hp]; replace hB := below_then hB (Nat.le_refl _) hb; clear hb) | (go_at_call 21; refine (hAc _ hB).mono ?_; rintro e w5 ⟨rfl, hb⟩; dsimp only; rw [ha]; replace hB := below_then hB (Nat.le_refl _) hb; clear hb) | (go_at_call 22; refine (hGo _ hB).mono ?_; rintro e w5 ⟨rfl, hb⟩; dsimp only; replace hB := below_then hB (Nat.le_refl _) hb; clear hb))
                  go_roundw
                  case rel => exact ⟨i + 1, by omega, by go_num, by rw [best_skip (by rw [hcand, hw, haw, decide_eq_false (fun h => by have := (min_lt.1 h).2; omega)]; rfl)], hB⟩
                  case measure => simp [intOf]; omega
                · have hc1 : candB 3 P c i = true := by rw [hcand, hw, haw, decide_eq_true (min_lt.2 ⟨by omega, by omega⟩)]; rfl
                  go_upto_region 14 with (first | (go_at_call 19; refine (hEn _ hB).mono ?_; rintro e w5 ⟨rfl, hb⟩; dsimp only; rw [he]; replace hB := below_then hB (Nat.le_refl _) hb; clear hb) | (go_at_call 20; refine (hPe _ hB).mono ?_; rintro e w5 ⟨rfl, hb⟩; dsimp only; rw [hp]; replace hB := below_then hB (Nat.le_refl _) hb; clear hb) | (go_at_call 21; refine (hAc _ hB).mono ?_; rintro e w5 ⟨rfl, hb⟩; dsimp only; rw [ha]; replace hB := below_then hB (Nat.le_refl _) hb; clear hb) | (go_at_call 22; refine (hGo _ hB).mono ?_; rintro e w5 ⟨rfl, hb⟩; dsimp only; replace hB := below_then hB (Nat.le_refl _) hb; clear hb))
                  clear hEn hPe hAc
                  cases hb0 : bstF 3 P c i with
                  | none =>
                    have e0 : bestI 3 P c i = -1 := by rw [bestI, hb0]
                    have e1 : bestI 3 P c (i + 1) = i := by rw [bestI, bstF, hc1, if_pos rfl, hb0]
                    rw [e0]
                    replace e1 := show Hid _ from e1
                    clear e0 hb0
                    go_wp2
                    go_roundw
                    case rel => exact ⟨i + 1, by omega, by go_num, by rw [e1.out], hB⟩
                    case measure => simp [intOf]; omega
                  | some t =>
                    have e0 : bestI 3 P c i = t.id := by rw [bestI, hb0]
                    obtain ⟨⟨k0, g1, _, g3⟩, _⟩ := bst_some i t hb0
                    have hid : t.id = k0 := by rw [g3]
                    have hrk : (lookV 3 P c k0).rank = t.rank := by rw [g3]
                    have hRk : ∀ w', Below w4.heap.size w4 w' → Calls Try.prog 18 #[ptr g 0, vI c, vI t.id] w' fun e w'' => e = .returned (vI t.rank) ∧ Below w'.heap.size w' w'' := fun w' hb => by rw [← hrk, hid]; exact rate_c (H4.grow hb) c k0
                    have h0 : 0 ≤ t.id := by omega
                    rw [e0]
                    clear e0 hid hrk g3
                    by_cases hlr : s.rank < t.rank
                    · have e1 : bestI 3 P c (i + 1) = i := by rw [bestI, bstF, hc1, if_pos rfl, hb0, hs]; dsimp only; rw [if_pos hlr]
                      replace e1 := show Hid _ from e1
                      go_wp2_with (first | (go_at_call 18; refine (hRk _ hB).mono ?_; rintro e w5 ⟨rfl, hb⟩; dsimp only; replace hB := below_then hB (Nat.le_refl _) hb; clear hb))
                      go_roundw
                      case rel => exact ⟨i + 1, by omega, by go_num, by rw [e1.out], hB⟩
                      case measure => simp [intOf]; omega
                    · have e1 : bestI 3 P c (i + 1) = t.id := by rw [bestI, bstF, hc1, if_pos rfl, hb0, hs]; dsimp only; rw [if_neg hlr]
                      replace e1 := show Hid _ from e1
                      go_wp2_with (first | (go_at_call 18; refine (hRk _ hB).mono ?_; rintro e w5 ⟨rfl, hb⟩; dsimp only; replace hB := below_then hB (Nat.le_refl _) hb; clear hb))
                      go_roundw
                      case rel => exact ⟨i + 1, by omega, by go_num, by rw [e1.out], hB⟩
                      case measure => simp [intOf]; omega
    · obtain rfl : i = 64 := by omega
      clear hlt
      have H6 := H4.grow hB
      have B6 := below_then B4 (Nat.le_refl _) hB
      have hbest := gbest_c H6 c
      have hack := fun w' (hb : Below wr.heap.size wr w') => gack_c (H6.grow hb) c hlen
      cases hN : bstF 3 P c 64 with
      | none =>
        have e1 : bestI 3 P c 64 = -1 := by rw [bestI, hN]
        have hV : nextV 3 P c = none := by rw [next_nat hcp, hN]
        have e2 : nextT 3 P c = nilT := by rw [nextT, hV]; rfl
        have e3 : ackV 3 P c = 1023 := by rw [ackV, hV]
        have e4 : ackP 3 P c = P := by rw [ackP, hV]
        rw [hV, e2] at hbest
        simp only [e3, e4] at hack
        replace hbest : Calls Try.prog 23 #[ptr g 0, vI c] wr fun e w' => e = .returned (.tuple #[vI 0, .bool false]) ∧ Below wr.heap.size wr w' := hbest
        rw [e1]
        clear hV e2 e3 e4 e1 hN
        go_upto_region 18 with (first | (go_at_call 23; refine hbest.mono ?_; rintro e w7 ⟨rfl, hB7⟩; dsimp only) | (go_at_call 24; refine (hack _ hB7).mono ?_; rintro e w8 ⟨rfl, hT⟩; dsimp only))
        obtain ⟨L8, K8⟩ := KW.gtl ⟨H6.grow hB7, fun k hk => Nat.zero_le _, (Below.refl 0 w7), Nat.zero_le _⟩ hT
        have B8 : Below W.heap.size W w8 := by obtain ⟨L9, _, h2, _⟩ := hT; exact (below_then B6 (Nat.le_refl _) hB7).trans (h2.below (below_then B6 (Nat.le_refl _) hB7).size fun k hk => hfoot k hk)
        have hR8 := grun_c K8.at_ c
        rw [run_nat hcp] at hR8
        go_wp2_with (first | (go_at_call 17; refine hR8.mono ?_; rintro e w9 ⟨rfl, hB9⟩; dsimp only))
        go_ret
        exact ⟨rfl, below_then B8 (Nat.le_refl _) hB9⟩
      | some t =>
        have e1 : bestI 3 P c 64 = t.id := by rw [bestI, hN]
        have hV : nextV 3 P c = some t := by rw [next_nat hcp, hN]
        have e2 : nextT 3 P c = t := by rw [nextT, hV]; rfl
        have e3 : ackV 3 P c = t.id := by rw [ackV, hV]
        obtain ⟨⟨k0, g1, _, g3⟩, _⟩ := bst_some 64 t hN
        have hid : t.id = k0 := by rw [g3]
        have hrk : (lookV 3 P c k0).rank = t.rank := by rw [g3]
        have hlk := ack_look hcp hV hid g1
        have hrn := ack_run hV
        rw [hV, e2] at hbest
        simp only [e3] at hack
        replace hbest : Calls Try.prog 23 #[ptr g 0, vI c] wr fun e w' => e = .returned (.tuple #[vI t.id, .bool true]) ∧ Below wr.heap.size wr w' := hbest
        rw [e1]
        have h0 : 0 ≤ t.id := by omega
        clear hV e2 e3 e1 hN g3
        replace hid := show Hid _ from hid
        replace hrk := show Hid _ from hrk
        replace hlk := show Hid _ from hlk
        replace hrn := show Hid _ from hrn
        go_upto_region 20 with (first | (go_at_call 23; refine hbest.mono ?_; rintro e w7 ⟨rfl, hB7⟩; dsimp only) | (go_at_call 24; refine (hack _ hB7).mono ?_; rintro e w8 ⟨rfl, hT⟩; dsimp only))
        have B8 : Below W.heap.size W w8 := by obtain ⟨L9, _, h2, _⟩ := hT; exact (below_then B6 (Nat.le_refl _) hB7).trans (h2.below (below_then B6 (Nat.le_refl _) hB7).size fun k hk => hfoot k hk)
        obtain ⟨L8, H8, _, _⟩ := hT
        have hA8 : ∀ w', Below w8.heap.size w8 w' → Calls Try.prog 21 #[ptr g 0, vI c, vI t.id] w' fun e w'' => e = .returned (.bool true) ∧ Below w'.heap.size w' w'' := fun w' hb => by
          have h := active_c (H8.grow hb) c k0
          rw [hlk.out] at h
          rw [hid.out]; exact h
        have hR8 : ∀ w', Below w8.heap.size w8 w' → Calls Try.prog 17 #[ptr g 0, vI c] w' fun e w'' => e = .returned (vI t.rank) ∧ Below w'.heap.size w' w'' := fun w' hb => by
          have h := grun_c (H8.grow hb) c
          rw [run_nat hcp, hrn.out] at h
          exact h
        have hT8 : ∀ w', Below w8.heap.size w8 w' → Calls Try.prog 18 #[ptr g 0, vI c, vI t.id] w' fun e w'' => e = .returned (vI t.rank) ∧ Below w'.heap.size w' w'' := fun w' hb => by
          have h := rate_c (H8.grow hb) c k0
          rw [hlk.out] at h
          rw [hid.out, ← hrk.out]; exact h
        clear hlk hrn hid hrk
        have hB8 := Below.refl w8.heap.size w8
        go_wp2_with (first | (go_at_call 21; refine (hA8 _ hB8).mono ?_; rintro e w5 ⟨rfl, hb⟩; dsimp only; replace hB8 := below_then hB8 (Nat.le_refl _) hb; clear hb) | (go_at_call 17; refine (hR8 _ hB8).mono ?_; rintro e w5 ⟨rfl, hb⟩; dsimp only; replace hB8 := below_then hB8 (Nat.le_refl _) hb; clear hb) | (go_at_call 18; refine (hT8 _ hB8).mono ?_; rintro e w5 ⟨rfl, hb⟩; dsimp only; replace hB8 := below_then hB8 (Nat.le_refl _) hb; clear hb))
        go_ret
        exact ⟨rfl, below_then B8 (Nat.le_refl _) hB8⟩
end Go.Proofs.Ytpmlehfnlodmbaa
