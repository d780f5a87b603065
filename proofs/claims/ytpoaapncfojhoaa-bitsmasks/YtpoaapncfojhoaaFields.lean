/- What Field and Put of package bits, and of the document's own answer, give back, for all words and numbers: contracts. -/
import Derived.Test.YtpoaapncfojhoaaLeaf
namespace Go.Proofs.Ytpoaapncfojhoaa
open Go.RowKit

set_option maxHeartbeats 400000 in
theorem field_c (word a m : Int) (hw : Hid (0 ≤ word ∧ word < 4294967296)) (w : World) :
    Calls Try.prog 10 #[.int .u32 word, .int .i64 a, .int .i64 m] w fun e w' => e = .returned (.tuple #[.int .u32 (fieldV word a m), .int .i64 (inE (inWordB a m))]) ∧ ∃ n, w' = w.drewN n := by
  by_cases hb : inWordB a m = true
  · obtain ⟨h1, h2, h3, h4⟩ := inWord_of hb
    have hE : Hid (bits .and .u32 (word / 2 ^ a.toNat) (lowWordF m) = fieldV word a m) := field_walk word a m hw hb
    go_enter Try.func10, Try.ntmps10
    go_wp2_with (go_at_call 22; refine (inWord_c _ _ _).mono ?_; rintro e w' ⟨rfl, rfl⟩)
    go_quiet ((go_at_call 23; exact Calls.quiet_of_same (lowWord_c _ (by omega) (by omega) _)))
    go_wp2
    go_ret2
    exact ⟨ret_two hE.out (by rw [hb]; rfl), _, rfl⟩
  · have hb : inWordB a m = false := by simpa using hb
    go_enter Try.func10, Try.ntmps10
    go_wp2_with (go_at_call 22; refine (inWord_c _ _ _).mono ?_; rintro e w' ⟨rfl, rfl⟩)
    go_ret2
    exact ⟨ret_two (by simp [fieldV, hb]) (by rw [hb]; rfl), 0, rfl⟩

set_option maxHeartbeats 400000 in
theorem refField_c (word a m : Int) (hw : Hid (0 ≤ word ∧ word < 4294967296)) (w : World) :
    Calls Try.prog 11 #[.int .u32 word, .int .i64 a, .int .i64 m] w fun e w' => e = .returned (.tuple #[.int .u32 (fieldV word a m), .int .i64 (inE (inWordB a m))]) ∧ w' = w := by
  by_cases hb : inWordB a m = true
  · obtain ⟨h1, h2, h3, h4⟩ := inWord_of hb
    have hE := field_ref word a m hb
    replace hE : Hid (((orBits (fun j => word.toNat.testBit (a.toNat + j)) m.toNat : Nat) : Int) % 4294967296 = fieldV word a m) := hE
    have hb2 : Hid (inWordB a m = true) := hb
    clear hb
    go_enter Try.func11, Try.ntmps11
    go_wp2
    go_loop [8, 9] (fun o i => ∃ k : Nat, k ≤ m.toNat ∧ i = .int .i64 k ∧ o = .int .u64 ((orBits (fun j => word.toNat.testBit (a.toNat + j)) k : Nat) : Int))
      (fun _ i => m.toNat - (intOf i).toNat)
    case atStart => exact ⟨0, Nat.zero_le _, rfl, rfl⟩
    case round =>
      obtain ⟨k, hk, rfl, rfl⟩ := hrel
      by_cases hlt : (k : Int) < m
      · go_wp2_with fail
        refine (bit_c _ _ ?hn ?hn2 _).mono ?_
        case hn => omega
        case hn2 => omega
        rintro e w' ⟨rfl, rfl⟩
        go_wp2
        go_round
        case rel =>
          refine ⟨k + 1, by omega, by go_num, ?_⟩
          rw [or_step _ k (by omega)]
          have h5 := hw.out
          rw [wrap_u64_in h5.1 (by omega), bitF_of h5.1 (by omega), show (a + (k : Int)).toNat = a.toNat + k by omega]
        case measure => simp [intOf]; omega
      · obtain rfl : k = m.toNat := by omega
        go_wp2
        go_ret2
        exact ⟨ret_two hE.out (by rw [hb2.out]; rfl), rfl⟩
  · have hb0 : inWordB a m = false := by simpa using hb
    have hn : Hid (¬ (0 ≤ a ∧ 1 ≤ m ∧ m ≤ 32 ∧ a ≤ 32 - m)) := by
      unfold inWordB at hb; rw [decide_eq_true_eq] at hb; exact hb
    have hb : Hid (inWordB a m = false) := hb0
    clear hb0
    go_enter Try.func11, Try.ntmps11
    go_wp2
    all_goals first | (exfalso; have := hn.out; omega) | (go_ret2; exact ⟨ret_two (by simp [fieldV, hb.out]) (by simp [hb.out, inE]), rfl⟩)

set_option maxHeartbeats 400000 in
theorem put_c (word a m value : Int) (hw : Hid (0 ≤ word ∧ word < 4294967296)) (hv : Hid (0 ≤ value ∧ value < 4294967296)) (w : World) :
    Calls Try.prog 12 #[.int .u32 word, .int .i64 a, .int .i64 m, .int .u32 value] w fun e w' => e = .returned (.tuple #[.int .u32 (putV word a m value), .int .i64 (putE a m value)]) ∧ ∃ n, w' = w.drewN n := by
  by_cases hb : inWordB a m = true
  · obtain ⟨h1, h2, h3, h4⟩ := inWord_of hb
    by_cases hf : fitsB value m = true
    · have hE : Hid (bits .or .u32 (bits .andNot .u32 word (lowWordF m * 2 ^ a.toNat % 4294967296)) (value * 2 ^ a.toNat % 4294967296) = putV word a m value) := put_walk word a m value hw hv hb hf
      have hl : value ≤ lowWordF m := (fits_low hv.out.1).1 hf
      go_enter Try.func12, Try.ntmps12
      go_wp2_with (first | (go_at_call 22; refine (inWord_c _ _ _).mono ?_; rintro e w' ⟨rfl, rfl⟩) | (go_at_call 23; refine (lowWord_c _ (by omega) (by omega) _).mono ?_; rintro e w' ⟨rfl, rfl⟩))
      go_quiet ((go_at_call 23; exact Calls.quiet_of_same (lowWord_c _ (by omega) (by omega) _)))
      go_wp2
      go_ret2
      exact ⟨ret_two hE.out (by simp [putE, hb, hf]), _, rfl⟩
    · have hl : lowWordF m < value := Int.not_le.mp fun h => hf ((fits_low hv.out.1).2 h)
      go_enter Try.func12, Try.ntmps12
      go_wp2_with (first | (go_at_call 22; refine (inWord_c _ _ _).mono ?_; rintro e w' ⟨rfl, rfl⟩) | (go_at_call 23; refine (lowWord_c _ (by omega) (by omega) _).mono ?_; rintro e w' ⟨rfl, rfl⟩))
      go_ret2
      exact ⟨ret_two (by simp [putV, hf]) (by simp [putE, hb, hf]), 0, rfl⟩
  · have hb : inWordB a m = false := by simpa using hb
    go_enter Try.func12, Try.ntmps12
    go_wp2_with (go_at_call 22; refine (inWord_c _ _ _).mono ?_; rintro e w' ⟨rfl, rfl⟩)
    go_ret2
    exact ⟨ret_two (by simp [putV, hb]) (by simp [putE, hb]), 0, rfl⟩

set_option maxHeartbeats 400000 in
theorem refPut_c (word a m value : Int) (hw : Hid (0 ≤ word ∧ word < 4294967296)) (hv : Hid (0 ≤ value ∧ value < 4294967296)) (w : World) :
    Calls Try.prog 13 #[.int .u32 word, .int .i64 a, .int .i64 m, .int .u32 value] w fun e w' => e = .returned (.tuple #[.int .u32 (putV word a m value), .int .i64 (putE a m value)]) ∧ w' = w := by
  by_cases hb : inWordB a m = true
  · obtain ⟨h1, h2, h3, h4⟩ := inWord_of hb
    have hz : inE (inWordB a m) = 0 := by rw [hb]; rfl
    have hs := fits_shr (m := m) hv
    by_cases hf : fitsB value m = true
    · rw [hf] at hs
      have hE : Hid (((orBits (putBit word a m value) 32 : Nat) : Int) % 4294967296 = putV word a m value) := put_ref word a m value hb hf
      have hz2 : Hid (putE a m value = 0) := by show putE a m value = 0; simp [putE, hb, hf]
      clear hb hf
      go_enter Try.func13, Try.ntmps13
      go_wp2_with fail
      refine (refField_c _ _ _ hw _).mono ?_
      rintro e w' ⟨rfl, rfl⟩
      go_wp2
      go_loop [12, 13] (fun o i => ∃ k : Nat, k ≤ 32 ∧ i = .int .i64 k ∧ o = .int .u64 ((orBits (putBit word a m value) k : Nat) : Int))
        (fun _ i => 32 - (intOf i).toNat)
      case atStart => exact ⟨0, Nat.zero_le _, rfl, rfl⟩
      case round =>
        obtain ⟨k, hk, rfl, rfl⟩ := hrel
        by_cases hlt : (k : Int) < 32
        · by_cases hin : a ≤ (k : Int) ∧ (k : Int) < a + m
          · obtain ⟨hi1, hi2⟩ := hin
            go_wp2_with fail
            refine (bit_c _ _ ?hn ?hn2 _).mono ?_
            case hn => omega
            case hn2 => omega
            rintro e w' ⟨rfl, rfl⟩
            go_wp2_with fail
            refine (bit_c _ _ ?hn ?hn2 _).mono ?_
            case hn => omega
            case hn2 => omega
            rintro e w' ⟨rfl, rfl⟩
            go_wp2
            go_round
            case rel =>
              refine ⟨k + 1, by omega, by go_num, ?_⟩
              rw [or_step _ k (by omega)]
              have h5 := hv.out
              rw [wrap_u64_in h5.1 (by omega), bitF_of h5.1 (by omega), show ((k : Int) - a).toNat = k - a.toNat by omega]
              unfold putBit
              rw [if_pos (by omega)]
            case measure => simp [intOf]; omega
          · go_wp2_with fail
            refine (bit_c _ _ ?hn ?hn2 _).mono ?_
            case hn => omega
            case hn2 => omega
            rintro e w' ⟨rfl, rfl⟩
            go_wp2
            all_goals (try (exfalso; omega))
            all_goals (go_round; rotate_left; (simp [intOf]; omega))
            all_goals
              refine ⟨k + 1, by omega, by go_num, ?_⟩
              rw [or_step _ k (by omega)]
              have h5 := hw.out
              rw [wrap_u64_in h5.1 (by omega), bitF_of h5.1 (by omega), show ((k : Int)).toNat = k by omega]
              unfold putBit
              rw [if_neg (by omega)]
        · obtain rfl : k = 32 := by omega
          go_wp2
          go_ret2
          exact ⟨ret_two hE.out hz2.out.symm, rfl⟩
    · have hf' : fitsB value m = false := by simpa using hf
      rw [hf'] at hs
      have hz2 : Hid (putV word a m value = 0 ∧ putE a m value = 2) := by show _ ∧ _; simp [putV, putE, hb, hf]
      clear hb hf hf'
      go_enter Try.func13, Try.ntmps13
      go_wp2_with fail
      refine (refField_c _ _ _ hw _).mono ?_
      rintro e w' ⟨rfl, rfl⟩
      go_wp2
      go_ret2
      exact ⟨ret_two hz2.out.1.symm hz2.out.2.symm, rfl⟩
  · have hb : inWordB a m = false := by simpa using hb
    have hz : inE (inWordB a m) = 1 := by rw [hb]; rfl
    have hz2 : Hid (putV word a m value = 0 ∧ putE a m value = 1) := by show _ ∧ _; simp [putV, putE, hb]
    clear hb
    go_enter Try.func13, Try.ntmps13
    go_wp2_with fail
    refine (refField_c _ _ _ hw _).mono ?_
    rintro e w' ⟨rfl, rfl⟩
    go_wp2
    go_ret2
    exact ⟨ret_two hz2.out.1.symm hz2.out.2.symm, rfl⟩

end Go.Proofs.Ytpoaapncfojhoaa
