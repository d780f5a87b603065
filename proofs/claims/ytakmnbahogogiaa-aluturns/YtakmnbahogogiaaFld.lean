/- What Shift and Field of package alu and of the document's own answer give back: contracts, for all numbers. -/
import Derived.Test.YtakmnbahogogiaaFlds
import Derived.Test.YtakmnbahogogiaaReck
namespace Go.Proofs.Ytakmnbahogogiaa
open Go.RowKit
set_option linter.unusedVariables false
theorem lowest_c (v : Int) (m : Int) (h1 : 1 ≤ m) (h2 : m ≤ 64) (w : World) :
    Calls Try.prog 45 #[.int .u64 v, .int .i64 m] w fun e w' => e = .returned (.int .u64 (v % 2 ^ m.toNat)) ∧ w' = w := by
  have hE : Hid (IntKind.u64.wrap (v * 2 ^ (64 - m).toNat) / 2 ^ (64 - m).toNat = v % 2 ^ m.toNat) := by
    show _ = _
    rw [show (64 - m).toNat = 64 - m.toNat by omega]
    exact lowest_walk (by omega)
  go_enter Try.func45, Try.ntmps45
  go_wp2
  go_ret
  exact ⟨ret_int hE.out, rfl⟩
theorem move_c (v : Int) (r s : Nat) (hr : r ≤ 63) (hs : s ≤ 63) (w : World) :
    Calls Try.prog 28 #[.int .u64 v, .int .i64 (r : Int), .int .i64 (s : Int)] w fun e w' => e = .returned (.tuple #[.int .u64 (movedN v r s), .int .i64 (endN r s : Int)]) ∧ w' = w := by
  by_cases h : s < r
  · have hE : Hid (IntKind.u64.wrap (v % 2 ^ (s + 1) * 2 ^ (64 - r)) = movedN v r s) := by
      show _ = _
      unfold movedN
      rw [if_pos h, wrapU]
      have h1 := scaled (t := 64 - r) (mod_in v (s + 1)).1 (mod_in v (s + 1)).2
      have h2 : (2 : Int) ^ (64 - r + (s + 1)) ≤ 18446744073709551616 := by
        have h : 2 ^ (64 - r + (s + 1)) ≤ 2 ^ 64 := Nat.pow_le_pow_right (by decide) (by omega)
        have e := pow_nat (64 - r + (s + 1))
        have h2 : (2 : Nat) ^ 64 = 18446744073709551616 := by decide
        omega
      omega
    have hF : Hid (64 - (r : Int) + ((s : Int) + 1) = (endN r s : Int)) := by
      show _ = _
      unfold endN
      rw [if_pos h]
      omega
    have h' : (s : Int) < r := by omega
    clear h
    go_enter Try.func28, Try.ntmps28
    go_wp2_with (go_at_call 45; refine (lowest_c _ _ (by omega) (by omega) _).mono ?_; rintro e w' ⟨rfl, rfl⟩)
    go_ret2
    exact ⟨ret_two hE.out hF.out, rfl⟩
  · have hE : Hid (v / 2 ^ r % 2 ^ ((s : Int) - (r : Int) + 1).toNat = movedN v r s) := by
      show _ = _
      unfold movedN
      rw [if_neg h, show ((s : Int) - (r : Int) + 1).toNat = s - r + 1 by omega]
    have hF : Hid ((s : Int) - (r : Int) + 1 = (endN r s : Int)) := by
      show _ = _
      unfold endN
      rw [if_neg h]
      omega
    have h' : (r : Int) ≤ s := by omega
    clear h
    go_enter Try.func28, Try.ntmps28
    go_wp2_with (go_at_call 45; refine (lowest_c _ _ (by omega) (by omega) _).mono ?_; rintro e w' ⟨rfl, rfl⟩)
    go_ret2
    exact ⟨ret_two hE.out hF.out, rfl⟩
theorem place_no {m : Int} (h : placeB m = false) : ¬ (0 ≤ m ∧ m ≤ 63) := by simpa [placeB] using h
theorem place_yes {m : Int} (h : placeB m = true) : 0 ≤ m ∧ m ≤ 63 := by simpa [placeB] using h
theorem Field_c (v : Int) (g : Bool) (immr imms : Int) (w : World) :
    Calls Try.prog 16 #[.int .u64 v, .bool g, .int .i64 immr, .int .i64 imms] w fun e w' => e = .returned (.tuple #[.int .u64 (moveV v g immr imms), .int .i64 (moveE immr imms)]) ∧ w' = w := by
  cases h1 : placeB immr with
  | false =>
    have hE : Hid (0 = moveV v g immr imms ∧ 1 = moveE immr imms) := by
      show _ ∧ _
      simp [moveV, moveE, moveB, h1]
    go_enter Try.func16, Try.ntmps16
    go_wp2_with (go_at_call 27; refine (isPlace_c _ _).mono ?_; rintro e w' ⟨rfl, rfl⟩)
    go_ret2
    exact ⟨ret_two hE.out.1 hE.out.2, rfl⟩
  | true =>
    cases h2 : placeB imms with
    | false =>
      have hE : Hid (0 = moveV v g immr imms ∧ 1 = moveE immr imms) := by
        show _ ∧ _
        simp [moveV, moveE, moveB, h1, h2]
      go_enter Try.func16, Try.ntmps16
      go_wp2_with (go_at_call 27; refine (isPlace_c _ _).mono ?_; rintro e w' ⟨rfl, rfl⟩)
      go_ret2
      exact ⟨ret_two hE.out.1 hE.out.2, rfl⟩
    | true =>
      have hE : Hid (moveW v g immr.toNat imms.toNat = moveV v g immr imms ∧ 0 = moveE immr imms) := by
        show _ ∧ _
        simp [moveV, moveE, moveB, h1, h2]
      obtain ⟨r0, r1⟩ := place_yes h1
      obtain ⟨s0, s1⟩ := place_yes h2
      obtain ⟨r, rfl⟩ := Int.eq_ofNat_of_zero_le r0
      obtain ⟨s, rfl⟩ := Int.eq_ofNat_of_zero_le s0
      simp only [Int.toNat_natCast] at hE
      cases g with
      | false =>
        go_enter Try.func16, Try.ntmps16
        go_wp2_with (first | (go_at_call 27; refine (isPlace_c _ _).mono ?_; rintro e w' ⟨rfl, rfl⟩) | (go_at_call 28; refine (move_c _ _ _ (by omega) (by omega) _).mono ?_; rintro e w' ⟨rfl, rfl⟩))
        go_ret2
        refine ⟨ret_two ?_ hE.out.2, rfl⟩
        rw [← hE.out.1]
        simp [moveW]
      | true =>
        have hr : r ≤ 63 := by omega
        have hs : s ≤ 63 := by omega
        have hv : Hid (0 ≤ movedN v r s ∧ movedN v r s < 18446744073709551616) := by
          have h := moved_in (v := v) (r := r) (s := s)
          have e := end_in hr hs
          have h2 : (2 : Int) ^ endN r s ≤ 18446744073709551616 := by
            have h : 2 ^ endN r s ≤ 2 ^ 64 := Nat.pow_le_pow_right (by decide) e.2
            have e := pow_nat (endN r s)
            have h2 : (2 : Nat) ^ 64 = 18446744073709551616 := by decide
            omega
          exact ⟨h.1, by omega⟩
        have hb : Hid (inE (inNumB (endN r s : Int)) = 0) := by
          have e := end_in hr hs
          show _ = _
          rw [show inNumB (endN r s : Int) = true by unfold inNumB; rw [decide_eq_true_eq]; omega]
          rfl
        go_enter Try.func16, Try.ntmps16
        go_wp2_with (first | (go_at_call 27; refine (isPlace_c _ _).mono ?_; rintro e w' ⟨rfl, rfl⟩) | (go_at_call 28; refine (move_c _ _ _ hr hs _).mono ?_; rintro e w' ⟨rfl, rfl⟩) | (go_at_call 29; refine (signed_c _ _ hv _).mono ?_; rintro e w' ⟨rfl, rfl⟩))
        go_ret2
        refine ⟨ret_two ?_ ?_, rfl⟩
        · rw [field_signed hr hs, ← hE.out.1]
        · rw [hb.out, ← hE.out.2]
theorem bit_or (v : Int) (k : Nat) (hv : 0 ≤ v) : (v / 2 ^ k).tmod 2 = 0 ∨ (v / 2 ^ k).tmod 2 = 1 := by
  have h2 : 0 ≤ v / 2 ^ k := Int.ediv_nonneg hv (by have := pow_pos k; omega)
  rw [Int.tmod_eq_emod_of_nonneg h2]
  omega
theorem bit_emod (v : Int) (k : Nat) (hv : 0 ≤ v) : (v / 2 ^ k).tmod 2 = v / 2 ^ k % 2 := 
  Int.tmod_eq_emod_of_nonneg (Int.ediv_nonneg hv (by have := pow_pos k; omega))
theorem or_bit0 {v : Int} {j t : Nat} (hv : 0 ≤ v) (h : t + j < 64) :
    bits .or .u64 (v % 2 ^ j * 2 ^ t) (IntKind.u64.wrap ((v / 2 ^ j).tmod 2 * 2 ^ (t + j))) = v % 2 ^ (j + 1) * 2 ^ t := by
  have := or_bit (f := 0) hv h
  simpa using this
theorem or_bitr {v : Int} {r k : Nat} (hv : 0 ≤ v) (h : r ≤ k) (hk : k - r < 64) :
    bits .or .u64 (v / 2 ^ r % 2 ^ (k - r)) (IntKind.u64.wrap ((v / 2 ^ k).tmod 2 * 2 ^ (k - r))) = v / 2 ^ r % 2 ^ (k + 1 - r) := by
  have := or_bit (f := r) (j := k - r) (t := 0) hv (by omega)
  rw [show r + (k - r) = k by omega, show k - r + 1 = k + 1 - r by omega] at this
  simpa using this
set_option maxHeartbeats 1000000 in
theorem refField_lo_false (v : Int) (r s : Nat) (hv : 0 ≤ v) (hr : r ≤ 63) (hs : s ≤ 63) (h : s < r) (w : World) :
    Calls Try.prog 17 #[.int .u64 v, .bool false, .int .i64 (r : Int), .int .i64 (s : Int)] w fun e w' => e = .returned (.tuple #[.int .u64 (moveW v false r s), .bool true]) ∧ w' = w := by
  have h' : (s : Int) < r := by omega
  have hm := moved_in (v := v) (r := r) (s := s)
  have hM : movedN v r s = v % 2 ^ (s + 1) * 2 ^ (64 - r) := by
    unfold movedN
    first | rw [if_pos h] | (rw [if_neg (by omega)]; congr 2; omega)
  have hN : endN r s = 64 - r + (s + 1) := by
    unfold endN
    first | rw [if_pos h] | rw [if_neg (by omega)]
  have he := end_in hr hs
  rw [hN] at hm he
  rw [hM] at hm
  have hB := bit_or v s hv
  have hW : Hid (moveW v false r s = v % 2 ^ (s + 1) * 2 ^ (64 - r)) := by
    show _ = _
    unfold moveW
    rw [hM]
    simp
  replace hm : Hid (0 ≤ v % 2 ^ (s + 1) * 2 ^ (64 - r) ∧ v % 2 ^ (s + 1) * 2 ^ (64 - r) < 2 ^ (64 - r + (s + 1))) := hm
  replace he : Hid (1 ≤ 64 - r + (s + 1) ∧ 64 - r + (s + 1) ≤ 64) := he
  replace hB : Hid ((v / 2 ^ s).tmod 2 = 0 ∨ (v / 2 ^ s).tmod 2 = 1) := hB
  clear hM hN
  go_enter Try.func17, Try.ntmps17
  go_wp2
  go_loop [12, 13] (fun o i => ∃ k : Nat, k ≤ s + 1 ∧ i = .int .i64 k ∧ o = .int .u64 (v % 2 ^ k * 2 ^ (64 - r)))
      (fun _ i => s + 1 - (intOf i).toNat)
  case atStart => exact ⟨0, by omega, rfl, by simp⟩
  case round =>
    obtain ⟨k, hk, rfl, rfl⟩ := hrel
    by_cases hlt : (k : Int) ≤ s
    · go_wp2
      refine ⟨⟨k + 1, by omega, by go_num, ?_⟩, ?_⟩
      · rw [or_bit0 hv (by omega)]
      · simp [intOf]; omega
    · obtain rfl : k = s + 1 := by omega
      go_wp2
      go_loop [12, 15] (fun o i => i = .int .i64 ((64 - r + (s + 1) : Nat) : Int) ∧ o = .int .u64 (v % 2 ^ (s + 1) * 2 ^ (64 - r)))
        (fun _ i => 0)
      case atStart => exact ⟨by go_num, rfl⟩
      case round =>
        obtain ⟨rfl, rfl⟩ := hrel
        go_wp2
        all_goals (go_ret2; exact ⟨ret_ib hW.out.symm rfl, rfl⟩)
set_option maxHeartbeats 1000000 in
theorem refField_lo_true (v : Int) (r s : Nat) (hv : 0 ≤ v) (hr : r ≤ 63) (hs : s ≤ 63) (h : s < r) (w : World) :
    Calls Try.prog 17 #[.int .u64 v, .bool true, .int .i64 (r : Int), .int .i64 (s : Int)] w fun e w' => e = .returned (.tuple #[.int .u64 (moveW v true r s), .bool true]) ∧ w' = w := by
  have h' : (s : Int) < r := by omega
  have hm := moved_in (v := v) (r := r) (s := s)
  have hM : movedN v r s = v % 2 ^ (s + 1) * 2 ^ (64 - r) := by
    unfold movedN
    first | rw [if_pos h] | (rw [if_neg (by omega)]; congr 2; omega)
  have hN : endN r s = 64 - r + (s + 1) := by
    unfold endN
    first | rw [if_pos h] | rw [if_neg (by omega)]
  have he := end_in hr hs
  rw [hN] at hm he
  rw [hM] at hm
  have hB := bit_or v s hv
  have hW : Hid (moveW v true r s = v % 2 ^ (s + 1) * 2 ^ (64 - r) + (v / 2 ^ s).tmod 2 * (2 ^ 64 - 2 ^ (64 - r + (s + 1)))) := by
    show _ = _
    unfold moveW
    rw [hM]
    rw [bit_emod v s hv, hN]; rfl
  replace hm : Hid (0 ≤ v % 2 ^ (s + 1) * 2 ^ (64 - r) ∧ v % 2 ^ (s + 1) * 2 ^ (64 - r) < 2 ^ (64 - r + (s + 1))) := hm
  replace he : Hid (1 ≤ 64 - r + (s + 1) ∧ 64 - r + (s + 1) ≤ 64) := he
  replace hB : Hid ((v / 2 ^ s).tmod 2 = 0 ∨ (v / 2 ^ s).tmod 2 = 1) := hB
  clear hM hN
  go_enter Try.func17, Try.ntmps17
  go_wp2
  go_loop [12, 13] (fun o i => ∃ k : Nat, k ≤ s + 1 ∧ i = .int .i64 k ∧ o = .int .u64 (v % 2 ^ k * 2 ^ (64 - r)))
      (fun _ i => s + 1 - (intOf i).toNat)
  case atStart => exact ⟨0, by omega, rfl, by simp⟩
  case round =>
    obtain ⟨k, hk, rfl, rfl⟩ := hrel
    by_cases hlt : (k : Int) ≤ s
    · go_wp2
      refine ⟨⟨k + 1, by omega, by go_num, ?_⟩, ?_⟩
      · rw [or_bit0 hv (by omega)]
      · simp [intOf]; omega
    · obtain rfl : k = s + 1 := by omega
      go_wp2
      go_loop [12, 15] (fun o i => ∃ k : Nat, 64 - r + (s + 1) ≤ k ∧ k ≤ 64 ∧ i = .int .i64 k ∧ o = .int .u64 (v % 2 ^ (s + 1) * 2 ^ (64 - r) + (v / 2 ^ s).tmod 2 * (2 ^ k - 2 ^ (64 - r + (s + 1)))))
        (fun _ i => 64 - (intOf i).toNat)
      case atStart => exact ⟨64 - r + (s + 1), Nat.le_refl _, by have := he.out; omega, by go_num, by rw [Int.sub_self, Int.mul_zero, Int.add_zero]⟩
      case round =>
        obtain ⟨k, hk1, hk2, rfl, rfl⟩ := hrel
        by_cases hlt2 : (k : Int) < 64
        · go_wp2
          refine ⟨⟨k + 1, by omega, by omega, by go_num, ?_⟩, ?_⟩
          · rw [or_sign hm.out.1 hm.out.2 hk1 (by omega) hB.out]
          · simp [intOf]; omega
        · obtain rfl : k = 64 := by omega
          go_wp2
          go_ret2
          exact ⟨ret_ib hW.out.symm rfl, rfl⟩
set_option maxHeartbeats 1000000 in
theorem refField_hi_false (v : Int) (r s : Nat) (hv : 0 ≤ v) (hr : r ≤ 63) (hs : s ≤ 63) (h : r ≤ s) (w : World) :
    Calls Try.prog 17 #[.int .u64 v, .bool false, .int .i64 (r : Int), .int .i64 (s : Int)] w fun e w' => e = .returned (.tuple #[.int .u64 (moveW v false r s), .bool true]) ∧ w' = w := by
  have h' : (r : Int) ≤ s := by omega
  have hm := moved_in (v := v) (r := r) (s := s)
  have hM : movedN v r s = v / 2 ^ r % 2 ^ (s + 1 - r) := by
    unfold movedN
    first | rw [if_pos h] | (rw [if_neg (by omega)]; congr 2; omega)
  have hN : endN r s = s - r + 1 := by
    unfold endN
    first | rw [if_pos h] | rw [if_neg (by omega)]
  have he := end_in hr hs
  rw [hN] at hm he
  rw [hM] at hm
  have hB := bit_or v s hv
  have hW : Hid (moveW v false r s = v / 2 ^ r % 2 ^ (s + 1 - r)) := by
    show _ = _
    unfold moveW
    rw [hM]
    simp
  replace hm : Hid (0 ≤ v / 2 ^ r % 2 ^ (s + 1 - r) ∧ v / 2 ^ r % 2 ^ (s + 1 - r) < 2 ^ (s - r + 1)) := hm
  replace he : Hid (1 ≤ s - r + 1 ∧ s - r + 1 ≤ 64) := he
  replace hB : Hid ((v / 2 ^ s).tmod 2 = 0 ∨ (v / 2 ^ s).tmod 2 = 1) := hB
  clear hM hN
  go_enter Try.func17, Try.ntmps17
  go_wp2
  go_loop [12, 13] (fun o i => ∃ k : Nat, r ≤ k ∧ k ≤ s + 1 ∧ i = .int .i64 k ∧ o = .int .u64 (v / 2 ^ r % 2 ^ (k - r)))
      (fun _ i => s + 1 - (intOf i).toNat)
  case atStart => exact ⟨r, Nat.le_refl _, by omega, rfl, by simp⟩
  case round =>
    obtain ⟨k, hr1, hk, rfl, rfl⟩ := hrel
    by_cases hlt : (k : Int) ≤ s
    · go_wp2
      refine ⟨⟨k + 1, by omega, by omega, by go_num, ?_⟩, ?_⟩
      · rw [or_bitr hv hr1 (by omega)]
      · simp [intOf]; omega
    · obtain rfl : k = s + 1 := by omega
      go_wp2
      go_loop [12, 15] (fun o i => i = .int .i64 ((s - r + 1 : Nat) : Int) ∧ o = .int .u64 (v / 2 ^ r % 2 ^ (s + 1 - r)))
        (fun _ i => 0)
      case atStart => exact ⟨by go_num, rfl⟩
      case round =>
        obtain ⟨rfl, rfl⟩ := hrel
        go_wp2
        all_goals (go_ret2; exact ⟨ret_ib hW.out.symm rfl, rfl⟩)
set_option maxHeartbeats 1000000 in
theorem refField_hi_true (v : Int) (r s : Nat) (hv : 0 ≤ v) (hr : r ≤ 63) (hs : s ≤ 63) (h : r ≤ s) (w : World) :
    Calls Try.prog 17 #[.int .u64 v, .bool true, .int .i64 (r : Int), .int .i64 (s : Int)] w fun e w' => e = .returned (.tuple #[.int .u64 (moveW v true r s), .bool true]) ∧ w' = w := by
  have h' : (r : Int) ≤ s := by omega
  have hm := moved_in (v := v) (r := r) (s := s)
  have hM : movedN v r s = v / 2 ^ r % 2 ^ (s + 1 - r) := by
    unfold movedN
    first | rw [if_pos h] | (rw [if_neg (by omega)]; congr 2; omega)
  have hN : endN r s = s - r + 1 := by
    unfold endN
    first | rw [if_pos h] | rw [if_neg (by omega)]
  have he := end_in hr hs
  rw [hN] at hm he
  rw [hM] at hm
  have hB := bit_or v s hv
  have hW : Hid (moveW v true r s = v / 2 ^ r % 2 ^ (s + 1 - r) + (v / 2 ^ s).tmod 2 * (2 ^ 64 - 2 ^ (s - r + 1))) := by
    show _ = _
    unfold moveW
    rw [hM]
    rw [bit_emod v s hv, hN]; rfl
  replace hm : Hid (0 ≤ v / 2 ^ r % 2 ^ (s + 1 - r) ∧ v / 2 ^ r % 2 ^ (s + 1 - r) < 2 ^ (s - r + 1)) := hm
  replace he : Hid (1 ≤ s - r + 1 ∧ s - r + 1 ≤ 64) := he
  replace hB : Hid ((v / 2 ^ s).tmod 2 = 0 ∨ (v / 2 ^ s).tmod 2 = 1) := hB
  clear hM hN
  go_enter Try.func17, Try.ntmps17
  go_wp2
  go_loop [12, 13] (fun o i => ∃ k : Nat, r ≤ k ∧ k ≤ s + 1 ∧ i = .int .i64 k ∧ o = .int .u64 (v / 2 ^ r % 2 ^ (k - r)))
      (fun _ i => s + 1 - (intOf i).toNat)
  case atStart => exact ⟨r, Nat.le_refl _, by omega, rfl, by simp⟩
  case round =>
    obtain ⟨k, hr1, hk, rfl, rfl⟩ := hrel
    by_cases hlt : (k : Int) ≤ s
    · go_wp2
      refine ⟨⟨k + 1, by omega, by omega, by go_num, ?_⟩, ?_⟩
      · rw [or_bitr hv hr1 (by omega)]
      · simp [intOf]; omega
    · obtain rfl : k = s + 1 := by omega
      go_wp2
      go_loop [12, 15] (fun o i => ∃ k : Nat, s - r + 1 ≤ k ∧ k ≤ 64 ∧ i = .int .i64 k ∧ o = .int .u64 (v / 2 ^ r % 2 ^ (s + 1 - r) + (v / 2 ^ s).tmod 2 * (2 ^ k - 2 ^ (s - r + 1))))
        (fun _ i => 64 - (intOf i).toNat)
      case atStart => exact ⟨s - r + 1, Nat.le_refl _, by have := he.out; omega, by go_num, by rw [Int.sub_self, Int.mul_zero, Int.add_zero]⟩
      case round =>
        obtain ⟨k, hk1, hk2, rfl, rfl⟩ := hrel
        by_cases hlt2 : (k : Int) < 64
        · go_wp2
          refine ⟨⟨k + 1, by omega, by omega, by go_num, ?_⟩, ?_⟩
          · rw [or_sign hm.out.1 hm.out.2 hk1 (by omega) hB.out]
          · simp [intOf]; omega
        · obtain rfl : k = 64 := by omega
          go_wp2
          go_ret2
          exact ⟨ret_ib hW.out.symm rfl, rfl⟩
theorem refField_c (v : Int) (hv : Hid (U64 v)) (g : Bool) (immr imms : Int) (w : World) :
    Calls Try.prog 17 #[.int .u64 v, .bool g, .int .i64 immr, .int .i64 imms] w fun e w' => e = .returned (.tuple #[.int .u64 (moveV v g immr imms), .bool (moveB immr imms)]) ∧ w' = w := by
  cases hb : moveB immr imms with
  | false =>
    have hE : Hid (0 = moveV v g immr imms) := by
      show _ = _
      simp [moveV, hb]
    have hn : Hid (¬ (0 ≤ immr ∧ immr ≤ 63 ∧ 0 ≤ imms ∧ imms ≤ 63)) := by
      show ¬ _
      intro h
      unfold moveB placeB at hb
      rw [decide_eq_true (by omega), decide_eq_true (by omega)] at hb
      cases hb
    clear hb
    by_cases h0 : immr < 0
    · go_enter Try.func17, Try.ntmps17
      go_wp2
      go_ret2
      exact ⟨ret_ib hE.out rfl, rfl⟩
    · by_cases h3 : 63 < immr
      · go_enter Try.func17, Try.ntmps17
        go_wp2
        go_ret2
        exact ⟨ret_ib hE.out rfl, rfl⟩
      · by_cases h4 : imms < 0
        · go_enter Try.func17, Try.ntmps17
          go_wp2
          go_ret2
          exact ⟨ret_ib hE.out rfl, rfl⟩
        · have h5 : 63 < imms := by have := hn.out; omega
          go_enter Try.func17, Try.ntmps17
          go_wp2
          go_ret2
          exact ⟨ret_ib hE.out rfl, rfl⟩
  | true =>
    have e1 : moveV v g immr imms = moveW v g immr.toNat imms.toNat := by simp [moveV, hb]
    unfold moveB at hb
    rw [Bool.and_eq_true] at hb
    obtain ⟨r0, r1⟩ := place_yes hb.1
    obtain ⟨s0, s1⟩ := place_yes hb.2
    obtain ⟨r, rfl⟩ := Int.eq_ofNat_of_zero_le r0
    obtain ⟨s, rfl⟩ := Int.eq_ofNat_of_zero_le s0
    rw [e1]
    simp only [Int.toNat_natCast]
    by_cases h : s < r
    · cases g
      · exact refField_lo_false v r s hv.out.1 (by omega) (by omega) h w
      · exact refField_lo_true v r s hv.out.1 (by omega) (by omega) h w
    · cases g
      · exact refField_hi_false v r s hv.out.1 (by omega) (by omega) (by omega) w
      · exact refField_hi_true v r s hv.out.1 (by omega) (by omega) (by omega) w
end Go.Proofs.Ytakmnbahogogiaa
