/- What Signed and Ror of package bits, and of the document's own answer, give back, for all numbers: contracts. -/
import Derived.Test.YtpoaapncfojhoaaLeaf
import Derived.Test.YtpoaapncfojhoaaPlainB
namespace Go.Proofs.Ytpoaapncfojhoaa
open Go.RowKit

set_option maxHeartbeats 400000 in
theorem signed_c (value m : Int) (hv : Hid (0 ≤ value ∧ value < 18446744073709551616)) (w : World) :
    Calls Try.prog 14 #[.int .u64 value, .int .i64 m] w fun e w' => e = .returned (.tuple #[.int .u64 (signedV value m), .int .i64 (inE (inNumB m))]) ∧ w' = w := by
  by_cases hb : inNumB m = true
  · obtain ⟨h1, h2⟩ := inNum_of hb
    have hE := signed_walk value m hv hb
    replace hE := show Hid _ from hE
    go_enter Try.func14, Try.ntmps14
    go_wp2_with (go_at_call 25; refine (inNum_c _ _).mono ?_; rintro e w' ⟨rfl, rfl⟩)
    go_ret2
    exact ⟨ret_two hE.out (by rw [hb]; rfl), rfl⟩
  · have hb : inNumB m = false := by simpa using hb
    go_enter Try.func14, Try.ntmps14
    go_wp2_with (go_at_call 25; refine (inNum_c _ _).mono ?_; rintro e w' ⟨rfl, rfl⟩)
    go_ret2
    exact ⟨ret_two (by simp [signedV, hb]) (by rw [hb]; rfl), rfl⟩

set_option maxHeartbeats 400000 in
theorem refSigned_c (value m : Int) (hv : Hid (0 ≤ value ∧ value < 18446744073709551616)) (w : World) :
    Calls Try.prog 15 #[.int .u64 value, .int .i64 m] w fun e w' => e = .returned (.tuple #[.int .u64 (signedV value m), .int .i64 (inE (inNumB m))]) ∧ w' = w := by
  by_cases hb : inNumB m = true
  · obtain ⟨h1, h2⟩ := inNum_of hb
    have hE : Hid (((orBits (signBit value m) 64 : Nat) : Int) = signedV value m) := by show _ = _; simp [signedV, hb]
    have hb2 : Hid (inNumB m = true) := hb
    clear hb
    go_enter Try.func15, Try.ntmps15
    go_wp2
    go_loop [6, 7] (fun o i => ∃ k : Nat, k ≤ 64 ∧ i = .int .i64 k ∧ o = .int .u64 ((orBits (signBit value m) k : Nat) : Int))
      (fun _ i => 64 - (intOf i).toNat)
    case atStart => exact ⟨0, Nat.zero_le _, rfl, rfl⟩
    case round =>
      obtain ⟨k, hk, rfl, rfl⟩ := hrel
      by_cases hlt : (k : Int) < 64
      · by_cases hmin : (k : Int) ≤ m - 1
        · go_wp2_with fail
          refine (bit_c _ _ ?hn ?hn2 _).mono ?_
          case hn => omega
          case hn2 => omega
          rintro e w' ⟨rfl, rfl⟩
          go_wp2
          go_round
          case rel =>
            refine ⟨k + 1, by omega, by go_num, ?_⟩
            rw [or_step _ k (by omega)]
            rw [bitF_of hv.out.1 (by omega), show ((k : Int)).toNat = min k (m.toNat - 1) by omega]
            rfl
          case measure => simp [intOf]; omega
        · go_wp2_with fail
          refine (bit_c _ _ ?hn ?hn2 _).mono ?_
          case hn => omega
          case hn2 => omega
          rintro e w' ⟨rfl, rfl⟩
          go_wp2
          go_round
          case rel =>
            refine ⟨k + 1, by omega, by go_num, ?_⟩
            rw [or_step _ k (by omega)]
            rw [bitF_of hv.out.1 (by omega), show (m - 1).toNat = min k (m.toNat - 1) by omega]
            rfl
          case measure => simp [intOf]; omega
      · obtain rfl : k = 64 := by omega
        go_wp2
        go_ret2
        exact ⟨ret_two hE.out (by rw [hb2.out]; rfl), rfl⟩
  · have hb0 : inNumB m = false := by simpa using hb
    have hn : Hid (¬ (1 ≤ m ∧ m ≤ 64)) := by
      unfold inNumB at hb; rw [decide_eq_true_eq] at hb; exact hb
    have hb : Hid (inNumB m = false) := hb0
    clear hb0
    go_enter Try.func15, Try.ntmps15
    go_wp2
    all_goals first | (exfalso; have := hn.out; omega) | (go_ret2; exact ⟨ret_two (by simp [signedV, hb.out]) (by simp [hb.out, inE]), rfl⟩)

set_option maxHeartbeats 400000 in
theorem turn_c (v b m : Int) (hv : Hid (0 ≤ v ∧ v < 18446744073709551616)) (hb : 0 ≤ b) (hm : 1 ≤ m) (hm2 : m ≤ 64) (w : World) :
    Calls Try.prog 27 #[.int .u64 v, .int .i64 b, .int .i64 m] w fun e w' => e = .returned (.int .u64 (turnF v b m)) ∧ ∃ n, w' = w.drewN n := by
  have hE := turn_walk v b m hv hb hm hm2
  replace hE := show Hid _ from hE
  have r1 : 0 ≤ b % m := Int.emod_nonneg _ (by omega)
  have r2 : b % m < m := Int.emod_lt_of_pos _ (by omega)
  go_enter Try.func27, Try.ntmps27
  go_wp2
  go_quiet ((go_at_call 26; exact Calls.quiet_of_same (low_c _ (by omega) _)))
  go_wp2
  go_ret
  exact ⟨ret_int hE.out, _, rfl⟩

set_option maxHeartbeats 400000 in
theorem ror_c (v b m : Int) (hv : Hid (0 ≤ v ∧ v < 18446744073709551616)) (w : World) :
    Calls Try.prog 16 #[.int .u64 v, .int .i64 b, .int .i64 m] w fun e w' => e = .returned (.tuple #[.int .u64 (rorV v b m), .int .i64 (rorE v b m)]) ∧ ∃ n, w' = w.drewN n := by
  by_cases hb : inNumB m = true
  · obtain ⟨h1, h2⟩ := inNum_of hb
    by_cases h0 : 0 ≤ b
    · by_cases hf : fits64 v m = true
      · have hl : v ≤ lowF m := (fits64_low hv.out.1 h2).1 hf
        have hE := ror_walk hb h0 hf
        have hE2 := (ror_yes hb h0 hf).2
        replace hE := show Hid _ from hE
        replace hE2 := show Hid _ from hE2
        go_enter Try.func16, Try.ntmps16
        go_wp2_with (first | (go_at_call 25; refine (inNum_c _ _).mono ?_; rintro e w' ⟨rfl, rfl⟩) | (go_at_call 26; refine (low_c _ (by omega) _).mono ?_; rintro e w' ⟨rfl, rfl⟩) | (go_at_call 27; refine (turn_c _ _ _ hv h0 h1 h2 _).mono ?_; rintro e w' ⟨rfl, n, rfl⟩))
        go_ret2
        exact ⟨ret_two hE.out hE2.out.symm, _, rfl⟩
      · have hl : lowF m < v := Int.not_le.mp fun h => hf ((fits64_low hv.out.1 h2).2 h)
        have hE := ror_no hb h0 (by simpa using hf)
        replace hE := show Hid _ from hE
        go_enter Try.func16, Try.ntmps16
        go_wp2_with (first | (go_at_call 25; refine (inNum_c _ _).mono ?_; rintro e w' ⟨rfl, rfl⟩) | (go_at_call 26; refine (low_c _ (by omega) _).mono ?_; rintro e w' ⟨rfl, rfl⟩))
        go_ret2
        exact ⟨ret_two hE.out.1.symm hE.out.2.symm, 0, rfl⟩
    · have hE := ror_arg (value := v) (b := b) (m := m) (by omega)
      replace hE := show Hid _ from hE
      go_enter Try.func16, Try.ntmps16
      go_wp2_with (first | (go_at_call 25; refine (inNum_c _ _).mono ?_; rintro e w' ⟨rfl, rfl⟩))
      go_ret2
      exact ⟨ret_two hE.out.1.symm hE.out.2.symm, 0, rfl⟩
  · have hE := ror_arg (value := v) (b := b) (m := m) (by unfold inNumB at hb; rw [decide_eq_true_eq] at hb; omega)
    replace hE := show Hid _ from hE
    have hb : inNumB m = false := by simpa using hb
    go_enter Try.func16, Try.ntmps16
    go_wp2_with (first | (go_at_call 25; refine (inNum_c _ _).mono ?_; rintro e w' ⟨rfl, rfl⟩))
    all_goals (go_ret2; exact ⟨ret_two hE.out.1.symm hE.out.2.symm, 0, rfl⟩)

theorem ror_place {k : Nat} {b m : Int} (h0 : 0 ≤ b) (h1 : 1 ≤ m) : (((k : Int) + b) % m).toNat = (k + b.toNat % m.toNat) % m.toNat := by
  obtain ⟨B, rfl⟩ := Int.eq_ofNat_of_zero_le h0
  obtain ⟨M, rfl⟩ := Int.eq_ofNat_of_zero_le (show 0 ≤ m by omega)
  have e : (((k : Int) + (B : Int)) % (M : Int)) = (((k + B % M) % M : Nat) : Int) := by simp
  rw [e]
  simp only [Int.toNat_natCast]

set_option maxHeartbeats 800000 in
theorem refRor_c (v b m : Int) (hv : Hid (0 ≤ v ∧ v < 18446744073709551616)) (w : World) :
    Calls Try.prog 17 #[.int .u64 v, .int .i64 b, .int .i64 m] w fun e w' => e = .returned (.tuple #[.int .u64 (rorV v b m), .int .i64 (rorE v b m)]) ∧ w' = w := by
  by_cases ha : 1 ≤ m ∧ m ≤ 64 ∧ 0 ≤ b
  · obtain ⟨h1, h2, h0⟩ := ha
    have hb : inNumB m = true := by unfold inNumB; rw [decide_eq_true_eq]; omega
    have hs := fits64_shr (m := m) hv
    have r1 : 0 ≤ b % m := Int.emod_nonneg _ (by omega)
    have r2 : b % m < m := Int.emod_lt_of_pos _ (by omega)
    by_cases hf : fits64 v m = true
    · have hE := ror_yes hb h0 hf
      replace hE := show Hid _ from hE
      rw [hf] at hs
      clear hf hb
      go_enter Try.func17, Try.ntmps17
      go_wp2
      all_goals
        go_loop [8, 9] (fun o i => ∃ k : Nat, k ≤ m.toNat ∧ i = .int .i64 k ∧ o = .int .u64 ((orBits (rorBit v.toNat b.toNat m.toNat) k : Nat) : Int))
          (fun _ i => m.toNat - (intOf i).toNat)
        case atStart => exact ⟨0, Nat.zero_le _, rfl, rfl⟩
        case round =>
          obtain ⟨k, hk, rfl, rfl⟩ := hrel
          by_cases hlt : (k : Int) < m
          · have q1 : 0 ≤ ((k : Int) + b) % m := Int.emod_nonneg _ (by omega)
            have q2 : ((k : Int) + b) % m < m := Int.emod_lt_of_pos _ (by omega)
            go_wp2_with fail
            refine (bit_c _ _ ?hn ?hn2 _).mono ?_
            case hn => omega
            case hn2 => omega
            rintro e w' ⟨rfl, rfl⟩
            go_wp2
            go_round
            case rel =>
              refine ⟨k + 1, by omega, by go_num, ?_⟩
              rw [or_step _ k (by omega)]
              rw [bitF_of hv.out.1 (by omega), ror_place h0 h1]
              rfl
            case measure => simp [intOf]; omega
          · obtain rfl : k = m.toNat := by omega
            go_wp2
            go_ret2
            exact ⟨ret_two hE.out.1 hE.out.2.symm, rfl⟩
    · have hE := ror_no hb h0 (by simpa using hf)
      replace hE := show Hid _ from hE
      have h64 : m < 64 := by
        rcases Int.lt_or_eq_of_le h2 with h | h
        · exact h
        · exact absurd (by rw [h]; exact fits64_all hv) hf
      rw [show fits64 v m = false by simpa using hf] at hs
      clear hf hb
      go_enter Try.func17, Try.ntmps17
      go_wp2
      go_ret2
      exact ⟨ret_two hE.out.1.symm hE.out.2.symm, rfl⟩
  · have hE := ror_arg (value := v) (b := b) (m := m) ha
    replace hE := show Hid _ from hE
    have hn : Hid (¬ (1 ≤ m ∧ m ≤ 64 ∧ 0 ≤ b)) := ha
    clear ha
    go_enter Try.func17, Try.ntmps17
    go_wp2
    all_goals first | (exfalso; have := hn.out; omega) | (go_ret2; exact ⟨ret_two hE.out.1.symm hE.out.2.symm, rfl⟩)

end Go.Proofs.Ytpoaapncfojhoaa
