/- What Mask of package bits, and of the document's own answer, gives back, for all numbers: contracts. -/
import Derived.Test.YtcmilajlngnibaaBNum
import Derived.Test.YtcmilajlngnibaaPlainC
namespace Go.Proofs.Ytcmilajlngnibaa
open Go.RowKit

set_option maxHeartbeats 400000 in
theorem sizeOf_c (n s : Int) (hs : 0 ≤ s) (hs2 : s ≤ 63) (w : World) :
    Calls Try.prog 93 #[.int .i64 n, .int .i64 s] w fun e w' => e = .returned (.int .i64 (sizeI n s)) ∧ w' = w := by
  by_cases hn : n = 1
  · have hE : Hid (sizeI n s = 64) := by show _ = _; unfold sizeI; rw [if_pos hn]
    have hn : (n == 1) = true := by simpa using hn
    go_enter Try.func93, Try.ntmps93
    go_wp2
    go_ret
    exact ⟨ret_int hE.out.symm, rfl⟩
  · have hN : Hid (n ≠ 1) := hn
    have hn : (n == 1) = false := by simpa using hn
    go_enter Try.func93, Try.ntmps93
    go_wp2
    go_loop [5] (fun z => ∃ k : Int, Hid (sizeHead s k) ∧ z = .int .i64 k) (fun z => (intOf z).toNat)
    case atStart => exact ⟨32, Or.inl rfl, rfl⟩
    case round =>
      obtain ⟨k, hk, rfl⟩ := hrel
      obtain ⟨b1, b2⟩ := sizeHead_bounds hk.out
      by_cases hlt : 63 - s < k
      · obtain ⟨g1, g2, g3⟩ := sizeHead_next hs hs2 hk.out hlt
        have G : Hid (sizeHead s (k / 2)) := g1
        clear g1
        go_wp2
        go_round
        case rel => exact ⟨k / 2, G, rfl⟩
        case measure => simp [intOf]; omega
      · go_wp2
        go_ret
        exact ⟨ret_int (sizeHead_end hN.out hs2 hk.out (by omega)), rfl⟩

set_option maxHeartbeats 400000 in
theorem again_c (p m : Int) (hp : Hid (0 ≤ p ∧ p.toNat < 2 ^ m.toNat)) (hm : Hid (isSize m)) (w : World) :
    Calls Try.prog 95 #[.int .u64 p, .int .i64 m] w fun e w' => e = .returned (.int .u64 (repF p m)) ∧ w' = w := by
  obtain ⟨h1, h2⟩ := size_pos hm.out
  go_enter Try.func95, Try.ntmps95
  go_wp2
  go_loop [0, 1] (fun q z => ∃ k : Nat, Hid (isSize k) ∧ Hid (m.toNat ∣ k) ∧ z = .int .i64 k ∧ q = .int .u64 ((orBits (repBit p m) k : Nat) : Int)) (fun _ z => 64 - (intOf z).toNat)
  case atStart =>
    refine ⟨m.toNat, ?_, Nat.dvd_refl _, ?_, ?_⟩
    · rw [Int.toNat_of_nonneg (by omega)]; exact hm
    · rw [Int.toNat_of_nonneg (by omega)]
    · rw [← rep_start p m hp.out.1 hp.out.2]
  case round =>
    obtain ⟨k, hk, hd, rfl, rfl⟩ := hrel
    obtain ⟨b1, b2⟩ := size_pos hk.out
    by_cases hlt : (k : Int) < 64
    · have hk2 : Hid (isSize ((k + k : Nat) : Int)) ∧ k + k ≤ 64 := by
        have := hk.out; unfold isSize at this; refine ⟨?_, by omega⟩; show isSize _; unfold isSize; omega
      obtain ⟨hk2, hk3⟩ := hk2
      go_wp2
      go_round
      case rel =>
        refine ⟨k + k, hk2, Nat.dvd_add hd.out hd.out, ?_, ?_⟩
        · rw [show ((k + k : Nat) : Int) = (k : Int) * 2 by omega]
        · rw [rep_step p m k hd.out hk3]
      case measure => simp [intOf]; omega
    · obtain rfl : k = 64 := by omega
      go_wp2
      go_ret
      exact ⟨ret_int rfl, rfl⟩

set_option maxHeartbeats 800000 in
theorem mask_c (n r s : Int) (w : World) :
    Calls Try.prog 88 #[.int .i64 n, .int .i64 r, .int .i64 s] w fun e w' => e = .returned (.tuple #[.int .u64 (maskV n r s), .int .i64 (maskE n r s)]) ∧ ∃ m, w' = w.drewN m := by
  by_cases ha : argB n r s = true
  · obtain ⟨⟨a1, a2⟩, ⟨a3, a4⟩, a5, a6⟩ := arg_of ha
    have s1 : sixB r = true := by unfold sixB; rw [decide_eq_true_eq]; omega
    have s2 : sixB s = true := by unfold sixB; rw [decide_eq_true_eq]; omega
    obtain ⟨z1, z2, z3⟩ := sizeI_cases n s
    by_cases hb : badB n s = true
    · have hE := mask_bad ha hb
      replace hE := show Hid _ from hE
      have hb' : Hid (sizeI n s < 2 ∨ s % sizeI n s = sizeI n s - 1) := by unfold badB at hb; rwa [decide_eq_true_eq] at hb
      clear z1 ha hb
      generalize hZ : sizeI n s = z at *
      replace hZ := show Hid _ from hZ
      by_cases hz : z < 2
      · go_enter Try.func88, Try.ntmps88
        go_wp2_with (first | (go_at_call 92; refine (six_c _ _).mono ?_; rintro e w' ⟨rfl, rfl⟩) | (go_at_call 93; refine (sizeOf_c _ _ (by omega) (by omega) _).mono ?_; rw [hZ.out]; rintro e w' ⟨rfl, rfl⟩))
        go_ret2
        exact ⟨ret_two hE.out.1.symm hE.out.2.symm, 0, rfl⟩
      · have hz2 : (s % z == z - 1) = true := by have := hb'.out; rw [beq_iff_eq]; omega
        go_enter Try.func88, Try.ntmps88
        go_wp2_with (first | (go_at_call 92; refine (six_c _ _).mono ?_; rintro e w' ⟨rfl, rfl⟩) | (go_at_call 93; refine (sizeOf_c _ _ (by omega) (by omega) _).mono ?_; rw [hZ.out]; rintro e w' ⟨rfl, rfl⟩))
        go_ret2
        exact ⟨ret_two hE.out.1.symm hE.out.2.symm, 0, rfl⟩
    · have hbf : badB n s = false := by simpa using hb
      have hE := mask_yes ha hbf
      replace hE := show Hid _ from hE
      have hb' : Hid (¬ (sizeI n s < 2 ∨ s % sizeI n s = sizeI n s - 1)) := by unfold badB at hbf; rwa [decide_eq_false_iff_not] at hbf
      clear ha hb hbf
      generalize hZ : sizeI n s = z at *
      replace hZ := show Hid _ from hZ
      have hz : 2 ≤ z := by have := hb'.out; omega
      have hZs : Hid (isSize z) := by rcases z1 with h | h; exact absurd h (by omega); exact h
      clear z1
      have hz2 : (s % z == z - 1) = false := by have := hb'.out; rw [beq_eq_false_iff_ne]; omega
      have q1 : 0 ≤ s % z := Int.emod_nonneg _ (by omega)
      have q2 : s % z < z := Int.emod_lt_of_pos _ (by omega)
      have q3 : 0 ≤ r % z := Int.emod_nonneg _ (by omega)
      have q4 : r % z < z := Int.emod_lt_of_pos _ (by omega)
      have hM := mask_code (s := s) (r := r) hz z2
      replace hM := show Hid _ from hM
      go_enter Try.func88, Try.ntmps88
      go_wp2_with (first | (go_at_call 92; refine (six_c _ _).mono ?_; rintro e w' ⟨rfl, rfl⟩) | (go_at_call 93; refine (sizeOf_c _ _ (by omega) (by omega) _).mono ?_; rw [hZ.out]; rintro e w' ⟨rfl, rfl⟩) | (go_at_call 94; refine (low_c _ (by omega) _).mono ?_; rintro e w' ⟨rfl, rfl⟩) | (go_at_call 96; refine (turn_c _ _ _ (lowF_bounds _) (by omega) (by omega) (by omega) _).mono ?_; rintro e w' ⟨rfl, nn, rfl⟩) | (go_at_call 95; refine (again_c _ _ ⟨(turnF_bounds _ _ _ (by omega)).1, turnF_fits _ _ _⟩ hZs _).mono ?_; rintro e w' ⟨rfl, rfl⟩))
      go_ret2
      exact ⟨ret_two (by rw [hE.out.1]; exact hM.out) hE.out.2.symm, _, rfl⟩
  · have ha : argB n r s = false := by simpa using ha
    have hE := mask_arg ha
    replace hE := show Hid _ from hE
    have hn : Hid (¬ ((0 ≤ n ∧ n ≤ 1) ∧ (0 ≤ r ∧ r ≤ 63) ∧ (0 ≤ s ∧ s ≤ 63))) := notarg_of ha
    clear ha
    by_cases g1 : n < 0
    · go_enter Try.func88, Try.ntmps88
      go_wp2_with (go_at_call 92; refine (six_c _ _).mono ?_; rintro e w' ⟨rfl, rfl⟩)
      go_ret2
      exact ⟨ret_two hE.out.1.symm hE.out.2.symm, 0, rfl⟩
    · by_cases g2 : 1 < n
      · go_enter Try.func88, Try.ntmps88
        go_wp2_with (go_at_call 92; refine (six_c _ _).mono ?_; rintro e w' ⟨rfl, rfl⟩)
        go_ret2
        exact ⟨ret_two hE.out.1.symm hE.out.2.symm, 0, rfl⟩
      · by_cases g3 : sixB r = true
        · have g4 : sixB s = false := by
            unfold sixB at *
            rw [decide_eq_true_eq] at g3
            rw [decide_eq_false_iff_not]
            have := hn.out
            omega
          go_enter Try.func88, Try.ntmps88
          go_wp2_with (go_at_call 92; refine (six_c _ _).mono ?_; rintro e w' ⟨rfl, rfl⟩)
          go_ret2
          exact ⟨ret_two hE.out.1.symm hE.out.2.symm, 0, rfl⟩
        · have g3 : sixB r = false := by simpa using g3
          go_enter Try.func88, Try.ntmps88
          go_wp2_with (go_at_call 92; refine (six_c _ _).mono ?_; rintro e w' ⟨rfl, rfl⟩)
          go_ret2
          exact ⟨ret_two hE.out.1.symm hE.out.2.symm, 0, rfl⟩

theorem mod_place {k : Nat} {z : Int} (hz : 0 ≤ z) : ((k : Int) % z).toNat = k % z.toNat := by
  obtain ⟨Z, rfl⟩ := Int.eq_ofNat_of_zero_le hz
  have e : ((k : Int) % (Z : Int)) = ((k % Z : Nat) : Int) := by simp
  rw [e]
  simp only [Int.toNat_natCast]

end Go.Proofs.Ytcmilajlngnibaa
