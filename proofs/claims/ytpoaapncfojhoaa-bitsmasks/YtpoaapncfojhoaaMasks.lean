/- What Mask of package bits, and of the document's own answer, gives back, for all numbers: contracts. -/
import Derived.Test.YtpoaapncfojhoaaNumbers
import Derived.Test.YtpoaapncfojhoaaPlainC
namespace Go.Proofs.Ytpoaapncfojhoaa
open Go.RowKit

set_option maxHeartbeats 400000 in
theorem sizeOf_c (n s : Int) (hs : 0 ≤ s) (hs2 : s ≤ 63) (w : World) :
    Calls Try.prog 29 #[.int .i64 n, .int .i64 s] w fun e w' => e = .returned (.int .i64 (sizeI n s)) ∧ w' = w := by
  by_cases hn : n = 1
  · have hE : Hid (sizeI n s = 64) := by show _ = _; unfold sizeI; rw [if_pos hn]
    have hn : (n == 1) = true := by simpa using hn
    go_enter Try.func29, Try.ntmps29
    go_wp2
    go_ret
    exact ⟨ret_int hE.out.symm, rfl⟩
  · have hN : Hid (n ≠ 1) := hn
    have hn : (n == 1) = false := by simpa using hn
    go_enter Try.func29, Try.ntmps29
    go_wp2
    go_loop [5] (fun z => ∃ k : Int, Hid (sizeHead s k) ∧ z = .int .i64 k) (fun z => (intOf z).toNat)
    case atStart => exact ⟨32, Or.inl rfl, rfl⟩
    case round =>
      obtain ⟨k, hk, rfl⟩ := hrel
      obtain ⟨b1, b2⟩ := sizeHead_bounds hk.out
      by_cases hlt : 63 - s < k
      · obtain ⟨g1, g2, g3⟩ := sizeHead_next hs hs2 hk.out hlt
        have G : Hid (sizeHead s (k / 2)) := g1
        clear g1
        go_wp2
        go_round
        case rel => exact ⟨k / 2, G, rfl⟩
        case measure => simp [intOf]; omega
      · go_wp2
        go_ret
        exact ⟨ret_int (sizeHead_end hN.out hs2 hk.out (by omega)), rfl⟩

set_option maxHeartbeats 400000 in
theorem again_c (p m : Int) (hp : Hid (0 ≤ p ∧ p.toNat < 2 ^ m.toNat)) (hm : Hid (isSize m)) (w : World) :
    Calls Try.prog 30 #[.int .u64 p, .int .i64 m] w fun e w' => e = .returned (.int .u64 (repF p m)) ∧ w' = w := by
  obtain ⟨h1, h2⟩ := size_pos hm.out
  go_enter Try.func30, Try.ntmps30
  go_wp2
  go_loop [0, 1] (fun q z => ∃ k : Nat, Hid (isSize k) ∧ Hid (m.toNat ∣ k) ∧ z = .int .i64 k ∧ q = .int .u64 ((orBits (repBit p m) k : Nat) : Int)) (fun _ z => 64 - (intOf z).toNat)
  case atStart =>
    refine ⟨m.toNat, ?_, Nat.dvd_refl _, ?_, ?_⟩
    · rw [Int.toNat_of_nonneg (by omega)]; exact hm
    · rw [Int.toNat_of_nonneg (by omega)]
    · rw [← rep_start p m hp.out.1 hp.out.2]
  case round =>
    obtain ⟨k, hk, hd, rfl, rfl⟩ := hrel
    obtain ⟨b1, b2⟩ := size_pos hk.out
    by_cases hlt : (k : Int) < 64
    · have hk2 : Hid (isSize ((k + k : Nat) : Int)) ∧ k + k ≤ 64 := by
        have := hk.out; unfold isSize at this; refine ⟨?_, by omega⟩; show isSize _; unfold isSize; omega
      obtain ⟨hk2, hk3⟩ := hk2
      go_wp2
      go_round
      case rel =>
        refine ⟨k + k, hk2, Nat.dvd_add hd.out hd.out, ?_, ?_⟩
        · rw [show ((k + k : Nat) : Int) = (k : Int) * 2 by omega]
        · rw [rep_step p m k hd.out hk3]
      case measure => simp [intOf]; omega
    · obtain rfl : k = 64 := by omega
      go_wp2
      go_ret
      exact ⟨ret_int rfl, rfl⟩

set_option maxHeartbeats 800000 in
theorem mask_c (n r s : Int) (w : World) :
    Calls Try.prog 18 #[.int .i64 n, .int .i64 r, .int .i64 s] w fun e w' => e = .returned (.tuple #[.int .u64 (maskV n r s), .int .i64 (maskE n r s)]) ∧ ∃ m, w' = w.drewN m := by
  by_cases ha : argB n r s = true
  · obtain ⟨⟨a1, a2⟩, ⟨a3, a4⟩, a5, a6⟩ := arg_of ha
    have s1 : sixB r = true := by unfold sixB; rw [decide_eq_true_eq]; omega
    have s2 : sixB s = true := by unfold sixB; rw [decide_eq_true_eq]; omega
    obtain ⟨z1, z2, z3⟩ := sizeI_cases n s
    by_cases hb : badB n s = true
    · have hE := mask_bad ha hb
      replace hE := show Hid _ from hE
      have hb' : Hid (sizeI n s < 2 ∨ s % sizeI n s = sizeI n s - 1) := by unfold badB at hb; rwa [decide_eq_true_eq] at hb
      clear z1 ha hb
      generalize hZ : sizeI n s = z at *
      replace hZ := show Hid _ from hZ
      by_cases hz : z < 2
      · go_enter Try.func18, Try.ntmps18
        go_wp2_with (first | (go_at_call 28; refine (six_c _ _).mono ?_; rintro e w' ⟨rfl, rfl⟩) | (go_at_call 29; refine (sizeOf_c _ _ (by omega) (by omega) _).mono ?_; rw [hZ.out]; rintro e w' ⟨rfl, rfl⟩))
        go_ret2
        exact ⟨ret_two hE.out.1.symm hE.out.2.symm, 0, rfl⟩
      · have hz2 : (s % z == z - 1) = true := by have := hb'.out; rw [beq_iff_eq]; omega
        go_enter Try.func18, Try.ntmps18
        go_wp2_with (first | (go_at_call 28; refine (six_c _ _).mono ?_; rintro e w' ⟨rfl, rfl⟩) | (go_at_call 29; refine (sizeOf_c _ _ (by omega) (by omega) _).mono ?_; rw [hZ.out]; rintro e w' ⟨rfl, rfl⟩))
        go_ret2
        exact ⟨ret_two hE.out.1.symm hE.out.2.symm, 0, rfl⟩
    · have hbf : badB n s = false := by simpa using hb
      have hE := mask_yes ha hbf
      replace hE := show Hid _ from hE
      have hb' : Hid (¬ (sizeI n s < 2 ∨ s % sizeI n s = sizeI n s - 1)) := by unfold badB at hbf; rwa [decide_eq_false_iff_not] at hbf
      clear ha hb hbf
      generalize hZ : sizeI n s = z at *
      replace hZ := show Hid _ from hZ
      have hz : 2 ≤ z := by have := hb'.out; omega
      have hZs : Hid (isSize z) := by rcases z1 with h | h; exact absurd h (by omega); exact h
      clear z1
      have hz2 : (s % z == z - 1) = false := by have := hb'.out; rw [beq_eq_false_iff_ne]; omega
      have q1 : 0 ≤ s % z := Int.emod_nonneg _ (by omega)
      have q2 : s % z < z := Int.emod_lt_of_pos _ (by omega)
      have q3 : 0 ≤ r % z := Int.emod_nonneg _ (by omega)
      have q4 : r % z < z := Int.emod_lt_of_pos _ (by omega)
      have hM := mask_code (s := s) (r := r) hz z2
      replace hM := show Hid _ from hM
      go_enter Try.func18, Try.ntmps18
      go_wp2_with (first | (go_at_call 28; refine (six_c _ _).mono ?_; rintro e w' ⟨rfl, rfl⟩) | (go_at_call 29; refine (sizeOf_c _ _ (by omega) (by omega) _).mono ?_; rw [hZ.out]; rintro e w' ⟨rfl, rfl⟩) | (go_at_call 26; refine (low_c _ (by omega) _).mono ?_; rintro e w' ⟨rfl, rfl⟩) | (go_at_call 27; refine (turn_c _ _ _ (lowF_bounds _) (by omega) (by omega) (by omega) _).mono ?_; rintro e w' ⟨rfl, nn, rfl⟩) | (go_at_call 30; refine (again_c _ _ ⟨(turnF_bounds _ _ _ (by omega)).1, turnF_fits _ _ _⟩ hZs _).mono ?_; rintro e w' ⟨rfl, rfl⟩))
      go_ret2
      exact ⟨ret_two (by rw [hE.out.1]; exact hM.out) hE.out.2.symm, _, rfl⟩
  · have ha : argB n r s = false := by simpa using ha
    have hE := mask_arg ha
    replace hE := show Hid _ from hE
    have hn : Hid (¬ ((0 ≤ n ∧ n ≤ 1) ∧ (0 ≤ r ∧ r ≤ 63) ∧ (0 ≤ s ∧ s ≤ 63))) := notarg_of ha
    clear ha
    by_cases g1 : n < 0
    · go_enter Try.func18, Try.ntmps18
      go_wp2_with (go_at_call 28; refine (six_c _ _).mono ?_; rintro e w' ⟨rfl, rfl⟩)
      go_ret2
      exact ⟨ret_two hE.out.1.symm hE.out.2.symm, 0, rfl⟩
    · by_cases g2 : 1 < n
      · go_enter Try.func18, Try.ntmps18
        go_wp2_with (go_at_call 28; refine (six_c _ _).mono ?_; rintro e w' ⟨rfl, rfl⟩)
        go_ret2
        exact ⟨ret_two hE.out.1.symm hE.out.2.symm, 0, rfl⟩
      · by_cases g3 : sixB r = true
        · have g4 : sixB s = false := by
            unfold sixB at *
            rw [decide_eq_true_eq] at g3
            rw [decide_eq_false_iff_not]
            have := hn.out
            omega
          go_enter Try.func18, Try.ntmps18
          go_wp2_with (go_at_call 28; refine (six_c _ _).mono ?_; rintro e w' ⟨rfl, rfl⟩)
          go_ret2
          exact ⟨ret_two hE.out.1.symm hE.out.2.symm, 0, rfl⟩
        · have g3 : sixB r = false := by simpa using g3
          go_enter Try.func18, Try.ntmps18
          go_wp2_with (go_at_call 28; refine (six_c _ _).mono ?_; rintro e w' ⟨rfl, rfl⟩)
          go_ret2
          exact ⟨ret_two hE.out.1.symm hE.out.2.symm, 0, rfl⟩

theorem mod_place {k : Nat} {z : Int} (hz : 0 ≤ z) : ((k : Int) % z).toNat = k % z.toNat := by
  obtain ⟨Z, rfl⟩ := Int.eq_ofNat_of_zero_le hz
  have e : ((k : Int) % (Z : Int)) = ((k % Z : Nat) : Int) := by simp
  rw [e]
  simp only [Int.toNat_natCast]

set_option maxHeartbeats 1600000 in
theorem refMask_c (n r s : Int) (w : World) :
    Calls Try.prog 19 #[.int .i64 n, .int .i64 r, .int .i64 s] w fun e w' => e = .returned (.tuple #[.int .u64 (maskV n r s), .int .i64 (maskE n r s)]) ∧ w' = w := by
  by_cases ha : argB n r s = true
  · obtain ⟨⟨a1, a2⟩, ⟨a3, a4⟩, a5, a6⟩ := arg_of ha
    have hbad : Hid (sizeI n s < 2 ∨ s % sizeI n s = sizeI n s - 1 → maskV n r s = 0 ∧ maskE n r s = 2) := fun hb => mask_bad ha (decide_eq_true hb)
    have hgood : Hid (¬ (sizeI n s < 2 ∨ s % sizeI n s = sizeI n s - 1) → maskV n r s = ((maskN (sizeI n s).toNat (s % sizeI n s).toNat (r % sizeI n s).toNat : Nat) : Int) ∧ maskE n r s = 0) := fun hb => mask_yes ha (decide_eq_false hb)
    clear ha
    by_cases hn : n = 0
    · obtain ⟨_, z2, z3⟩ := sizeI_cases n s
      have hN : Hid (n ≠ 1) := by show ¬ _; omega
      have hn0 : (n == 0) = true := by simpa using hn
      clear hn
      go_enter Try.func19, Try.ntmps19
      go_wp2
      go_loop [8] (fun z => ∃ k : Int, Hid (sizeHead s k) ∧ z = .int .i64 k) (fun z => (intOf z).toNat)
      case atStart => exact ⟨32, Or.inl rfl, rfl⟩
      case round =>
        obtain ⟨k, hk, rfl⟩ := hrel
        obtain ⟨b1, b2⟩ := sizeHead_bounds hk.out
        by_cases hlt : 63 - s < k
        · obtain ⟨g1, g2, g3⟩ := sizeHead_next a5 a6 hk.out hlt
          have G : Hid (sizeHead s (k / 2)) := g1
          clear g1
          go_wp2
          go_round
          case rel => exact ⟨k / 2, G, rfl⟩
          case measure => simp [intOf]; omega
        · have hz := sizeHead_end hN.out a6 hk.out (by omega)
          subst hz
          have zz : sizeI n s < 2 ∨ 2 ≤ sizeI n s := by omega
          rcases zz with hz | hz
          · have hE := (hbad.out (Or.inl hz))
            replace hE : Hid (maskV n r s = 0 ∧ maskE n r s = 2) := hE
            go_wp2
            go_ret2
            exact ⟨ret_two hE.out.1.symm hE.out.2.symm, rfl⟩
          · by_cases hz2 : s % sizeI n s = sizeI n s - 1
            · have hE : Hid (maskV n r s = 0 ∧ maskE n r s = 2) := hbad.out (Or.inr hz2)
              replace hz2 : (s % sizeI n s == sizeI n s - 1) = true := by rw [beq_iff_eq]; exact hz2
              go_wp2
              go_ret2
              exact ⟨ret_two hE.out.1.symm hE.out.2.symm, rfl⟩
            · have hE : Hid (maskV n r s = ((maskN (sizeI n s).toNat (s % sizeI n s).toNat (r % sizeI n s).toNat : Nat) : Int) ∧ maskE n r s = 0) := hgood.out (by omega)
              replace hz2 : (s % sizeI n s == sizeI n s - 1) = false := by rw [beq_eq_false_iff_ne]; exact hz2
              have q1 : 0 ≤ s % sizeI n s := Int.emod_nonneg _ (by omega)
              have q2 : s % sizeI n s < sizeI n s := Int.emod_lt_of_pos _ (by omega)
              have q3 : 0 ≤ r % sizeI n s := Int.emod_nonneg _ (by omega)
              have q4 : r % sizeI n s < sizeI n s := Int.emod_lt_of_pos _ (by omega)
              have hM : Hid (repF (turnF (lowF (s % sizeI n s + 1)) (r % sizeI n s) (sizeI n s)) (sizeI n s) = ((maskN (sizeI n s).toNat (s % sizeI n s).toNat (r % sizeI n s).toNat : Nat) : Int)) := mask_code hz z2
              have hO : Hid (((orBits (fun _ => true) ((s % sizeI n s).toNat + 1) : Nat) : Int) = lowF (s % sizeI n s + 1)) := by
                show _ = _
                rw [ones_low _ (by omega)]
                congr 1
                omega
              have hR : Hid (turnF (lowF (s % sizeI n s + 1)) (r % sizeI n s) (sizeI n s) = rorV (lowF (s % sizeI n s + 1)) (r % sizeI n s) (sizeI n s)) := ror_walk (by unfold inNumB; rw [decide_eq_true_eq]; omega) q3 (low_fits (by omega) (by omega))
              go_wp2
              go_loop [10, 11] (fun o i => ∃ k : Nat, k ≤ (s % sizeI n s).toNat + 1 ∧ i = .int .i64 k ∧ o = .int .u64 ((orBits (fun _ => true) k : Nat) : Int)) (fun _ i => (s % sizeI n s).toNat + 1 - (intOf i).toNat)
              case atStart => exact ⟨0, Nat.zero_le _, rfl, rfl⟩
              case round =>
                obtain ⟨k, hk, rfl, rfl⟩ := hrel
                by_cases hlt : (k : Int) ≤ s % sizeI n s
                · go_wp2
                  go_round
                  case rel =>
                    refine ⟨k + 1, by omega, by go_num, ?_⟩
                    rw [one_step k (by omega)]
                  case measure => simp [intOf]; omega
                · obtain rfl : k = (s % sizeI n s).toNat + 1 := by omega
                  rw [hO.out]
                  go_wp2_with fail
                  refine (refRor_c _ _ _ (lowF_bounds _) _).mono ?_
                  rw [← hR.out]
                  rintro e w' ⟨rfl, rfl⟩
                  go_wp2
                  go_loop [12, 13] (fun o i => ∃ k : Nat, k ≤ 64 ∧ i = .int .i64 k ∧ o = .int .u64 ((orBits (repBit (turnF (lowF (s % sizeI n s + 1)) (r % sizeI n s) (sizeI n s)) (sizeI n s)) k : Nat) : Int)) (fun _ i => 64 - (intOf i).toNat)
                  case atStart => exact ⟨0, Nat.zero_le _, rfl, rfl⟩
                  case round =>
                    obtain ⟨k, hk, rfl, rfl⟩ := hrel
                    by_cases hlt : (k : Int) < 64
                    · have q5 : 0 ≤ (k : Int) % sizeI n s := Int.emod_nonneg _ (by omega)
                      have q6 : (k : Int) % sizeI n s < sizeI n s := Int.emod_lt_of_pos _ (by omega)
                      go_wp2_with fail
                      refine (bit_c _ _ ?hn ?hn2 _).mono ?_
                      case hn => omega
                      case hn2 => omega
                      rintro e w' ⟨rfl, rfl⟩
                      go_wp2
                      go_round
                      case rel =>
                        refine ⟨k + 1, by omega, by go_num, ?_⟩
                        rw [or_step _ k (by omega)]
                        rw [bitF_of (turnF_bounds _ _ _ (by omega)).1 (by omega), mod_place (by omega)]
                        rfl
                      case measure => simp [intOf]; omega
                    · obtain rfl : k = 64 := by omega
                      go_wp2
                      go_ret2
                      exact ⟨ret_two (by rw [hE.out.1]; exact hM.out) hE.out.2.symm, rfl⟩
    · obtain rfl : n = 1 := by omega
      have h64 : sizeI 1 s = 64 := rfl
      rw [h64] at hbad hgood
      have z2 : (64 : Int) ≤ 64 := by omega
      have hz : (2 : Int) ≤ 64 := by omega
      clear h64 hn
      go_enter Try.func19, Try.ntmps19
      by_cases hz2 : s % 64 = 64 - 1
      · have hE : Hid (maskV 1 r s = 0 ∧ maskE 1 r s = 2) := hbad.out (Or.inr hz2)
        replace hz2 : (s % 64 == 63) = true := by rw [beq_iff_eq]; exact hz2
        go_wp2
        go_ret2
        exact ⟨ret_two hE.out.1.symm hE.out.2.symm, rfl⟩
      · have hE : Hid (maskV 1 r s = ((maskN (64 : Int).toNat (s % 64).toNat (r % 64).toNat : Nat) : Int) ∧ maskE 1 r s = 0) := hgood.out (by omega)
        replace hz2 : (s % 64 == 63) = false := by rw [beq_eq_false_iff_ne]; exact hz2
        have q1 : 0 ≤ s % 64 := Int.emod_nonneg _ (by omega)
        have q2 : s % 64 < 64 := Int.emod_lt_of_pos _ (by omega)
        have q3 : 0 ≤ r % 64 := Int.emod_nonneg _ (by omega)
        have q4 : r % 64 < 64 := Int.emod_lt_of_pos _ (by omega)
        have hM : Hid (repF (turnF (lowF (s % 64 + 1)) (r % 64) (64)) (64) = ((maskN (64 : Int).toNat (s % 64).toNat (r % 64).toNat : Nat) : Int)) := mask_code hz z2
        have hO : Hid (((orBits (fun _ => true) ((s % 64).toNat + 1) : Nat) : Int) = lowF (s % 64 + 1)) := by
          show _ = _
          rw [ones_low _ (by omega)]
          congr 1
          omega
        have hR : Hid (turnF (lowF (s % 64 + 1)) (r % 64) (64) = rorV (lowF (s % 64 + 1)) (r % 64) (64)) := ror_walk (by unfold inNumB; rw [decide_eq_true_eq]; omega) q3 (low_fits (by omega) (by omega))
        go_wp2
        go_loop [10, 11] (fun o i => ∃ k : Nat, k ≤ (s % 64).toNat + 1 ∧ i = .int .i64 k ∧ o = .int .u64 ((orBits (fun _ => true) k : Nat) : Int)) (fun _ i => (s % 64).toNat + 1 - (intOf i).toNat)
        case atStart => exact ⟨0, Nat.zero_le _, rfl, rfl⟩
        case round =>
          obtain ⟨k, hk, rfl, rfl⟩ := hrel
          by_cases hlt : (k : Int) ≤ s % 64
          · go_wp2
            go_round
            case rel =>
              refine ⟨k + 1, by omega, by go_num, ?_⟩
              rw [one_step k (by omega)]
            case measure => simp [intOf]; omega
          · obtain rfl : k = (s % 64).toNat + 1 := by omega
            rw [hO.out]
            go_wp2_with fail
            refine (refRor_c _ _ _ (lowF_bounds _) _).mono ?_
            rw [← hR.out]
            rintro e w' ⟨rfl, rfl⟩
            go_wp2
            go_loop [12, 13] (fun o i => ∃ k : Nat, k ≤ 64 ∧ i = .int .i64 k ∧ o = .int .u64 ((orBits (repBit (turnF (lowF (s % 64 + 1)) (r % 64) (64)) (64)) k : Nat) : Int)) (fun _ i => 64 - (intOf i).toNat)
            case atStart => exact ⟨0, Nat.zero_le _, rfl, rfl⟩
            case round =>
              obtain ⟨k, hk, rfl, rfl⟩ := hrel
              by_cases hlt : (k : Int) < 64
              · have q5 : 0 ≤ (k : Int) % 64 := Int.emod_nonneg _ (by omega)
                have q6 : (k : Int) % 64 < 64 := Int.emod_lt_of_pos _ (by omega)
                go_wp2_with fail
                refine (bit_c _ _ ?hn ?hn2 _).mono ?_
                case hn => omega
                case hn2 => omega
                rintro e w' ⟨rfl, rfl⟩
                go_wp2
                go_round
                case rel =>
                  refine ⟨k + 1, by omega, by go_num, ?_⟩
                  rw [or_step _ k (by omega)]
                  rw [bitF_of (turnF_bounds _ _ _ (by omega)).1 (by omega), mod_place (by omega)]
                  rfl
                case measure => simp [intOf]; omega
              · obtain rfl : k = 64 := by omega
                go_wp2
                go_ret2
                exact ⟨ret_two (by rw [hE.out.1]; exact hM.out) hE.out.2.symm, rfl⟩
  · have ha : argB n r s = false := by simpa using ha
    have hE := mask_arg ha
    replace hE := show Hid _ from hE
    have hn : Hid (¬ ((0 ≤ n ∧ n ≤ 1) ∧ (0 ≤ r ∧ r ≤ 63) ∧ (0 ≤ s ∧ s ≤ 63))) := notarg_of ha
    clear ha
    go_enter Try.func19, Try.ntmps19
    go_wp2
    all_goals first | (exfalso; have := hn.out; omega) | (go_ret2; exact ⟨ret_two hE.out.1.symm hE.out.2.symm, rfl⟩)

end Go.Proofs.Ytpoaapncfojhoaa
