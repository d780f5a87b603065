/- What Reckon and Shift of the document's own answer give back: contracts, for every kind and all numbers. -/
import Derived.Test.YtakmnbahogogiaaRols
namespace Go.Proofs.Ytakmnbahogogiaa
open Go.RowKit
set_option linter.unusedVariables false
theorem truth_c (a : Bool) (w : World) :
    Calls Try.prog 22 #[.bool a] w fun e w' => e = .returned (.int .u64 (oneI a)) ∧ w' = w := by
  cases a
  · go_enter Try.func22, Try.ntmps22
    go_wp2
    go_ret
    exact ⟨rfl, rfl⟩
  · go_enter Try.func22, Try.ntmps22
    go_wp2
    go_ret
    exact ⟨rfl, rfl⟩
theorem below_c (a b : Int) (ha : Hid (U64 a)) (hb : Hid (U64 b)) (w : World) :
    Calls Try.prog 23 #[.int .u64 a, .int .u64 b] w fun e w' => e = .returned (.bool (decide (wrap64 a < wrap64 b))) ∧ w' = w := by
  go_enter Try.func23, Try.ntmps23
  go_wp2
  go_ret
  exact ⟨ret_bool (below_walk ha.out hb.out), rfl⟩
theorem turned_0 (V : Nat → Int) (hV : ∀ k, 0 ≤ V k) (y : Int) (h0 : 0 ≤ y) (h63 : y ≤ 63) (hs : ∀ k, k < 63 → IntKind.u64.wrap (IntKind.u64.wrap ((V k).tdiv 2)) = V (k + 1)) (w : World) :
    Calls Try.prog 21 #[.int .u64 (V 0), .int .i64 y, .int .i64 0] w fun e w' => e = .returned (.int .u64 (V y.toNat)) ∧ w' = w := by
  have hs' : Hid (∀ k, k < 63 → IntKind.u64.wrap (IntKind.u64.wrap ((V k).tdiv 2)) = V (k + 1)) := hs
  clear hs
  go_enter Try.func21, Try.ntmps21
  go_wp2
  go_loop [0, 7] (fun o i => ∃ k : Nat, k ≤ y.toNat ∧ i = .int .i64 k ∧ o = .int .u64 (V k))
      (fun _ i => y.toNat - (intOf i).toNat)
  case atStart => exact ⟨0, Nat.zero_le _, rfl, rfl⟩
  case round =>
    obtain ⟨k, hk, rfl, rfl⟩ := hrel
    have hVk := hV k
    by_cases hlt : (k : Int) < y
    · go_wp2
      refine ⟨⟨k + 1, by omega, by go_num, ?_⟩, ?_⟩
      · rw [hs'.out k (by omega)]
      · simp [intOf]; omega
    · obtain rfl : k = y.toNat := by omega
      go_wp2
      go_ret
      exact ⟨rfl, rfl⟩
theorem turned_1 (V : Nat → Int) (hV : ∀ k, 0 ≤ V k) (y : Int) (h0 : 0 ≤ y) (h63 : y ≤ 63) (hs : ∀ k, k < 63 → IntKind.u64.wrap (IntKind.u64.wrap ((V k).tdiv 2) + 9223372036854775808) = V (k + 1)) (w : World) :
    Calls Try.prog 21 #[.int .u64 (V 0), .int .i64 y, .int .i64 1] w fun e w' => e = .returned (.int .u64 (V y.toNat)) ∧ w' = w := by
  have hs' : Hid (∀ k, k < 63 → IntKind.u64.wrap (IntKind.u64.wrap ((V k).tdiv 2) + 9223372036854775808) = V (k + 1)) := hs
  clear hs
  go_enter Try.func21, Try.ntmps21
  go_wp2
  go_loop [0, 7] (fun o i => ∃ k : Nat, k ≤ y.toNat ∧ i = .int .i64 k ∧ o = .int .u64 (V k))
      (fun _ i => y.toNat - (intOf i).toNat)
  case atStart => exact ⟨0, Nat.zero_le _, rfl, rfl⟩
  case round =>
    obtain ⟨k, hk, rfl, rfl⟩ := hrel
    have hVk := hV k
    by_cases hlt : (k : Int) < y
    · go_wp2
      refine ⟨⟨k + 1, by omega, by go_num, ?_⟩, ?_⟩
      · rw [hs'.out k (by omega)]
      · simp [intOf]; omega
    · obtain rfl : k = y.toNat := by omega
      go_wp2
      go_ret
      exact ⟨rfl, rfl⟩
theorem turned_2 (V : Nat → Int) (hV : ∀ k, 0 ≤ V k) (y : Int) (h0 : 0 ≤ y) (h63 : y ≤ 63) (hs : ∀ k, k < 63 → IntKind.u64.wrap (IntKind.u64.wrap ((V k).tdiv 2) + V k % 2 * 9223372036854775808) = V (k + 1)) (w : World) :
    Calls Try.prog 21 #[.int .u64 (V 0), .int .i64 y, .int .i64 2] w fun e w' => e = .returned (.int .u64 (V y.toNat)) ∧ w' = w := by
  have hs' : Hid (∀ k, k < 63 → IntKind.u64.wrap (IntKind.u64.wrap ((V k).tdiv 2) + V k % 2 * 9223372036854775808) = V (k + 1)) := hs
  clear hs
  go_enter Try.func21, Try.ntmps21
  go_wp2
  go_loop [0, 7] (fun o i => ∃ k : Nat, k ≤ y.toNat ∧ i = .int .i64 k ∧ o = .int .u64 (V k))
      (fun _ i => y.toNat - (intOf i).toNat)
  case atStart => exact ⟨0, Nat.zero_le _, rfl, rfl⟩
  case round =>
    obtain ⟨k, hk, rfl, rfl⟩ := hrel
    have hVk := hV k
    by_cases hlt : (k : Int) < y
    · go_wp2
      refine ⟨⟨k + 1, by omega, by go_num, ?_⟩, ?_⟩
      · rw [hs'.out k (by omega)]
      · simp [intOf]; omega
    · obtain rfl : k = y.toNat := by omega
      go_wp2
      go_ret
      exact ⟨rfl, rfl⟩
theorem divided_c (a b : Int) (ha : Hid (U64 a)) (hb : Hid (U64 b)) (w : World) :
    Calls Try.prog 20 #[.int .u64 a, .int .u64 b] w fun e w' => e = .returned (.int .u64 (reckonV 8 a b)) ∧ w' = w := by
  by_cases h0 : b = 0
  · subst h0
    go_enter Try.func20, Try.ntmps20
    go_wp2
    go_ret
    exact ⟨rfl, rfl⟩
  · have hz : (b == 0) = false := by simpa using h0
    have hz' : ¬ b = 0 := h0
    have q := ha.out
    have r := hb.out
    by_cases h1 : a < 9223372036854775808
    · by_cases h2 : b < 9223372036854775808
      · have hE : Hid (IntKind.u64.wrap (a.tdiv b) = reckonV 8 a b) := sdiv_pp q r h1 h2 h0
        have hE2 : Hid (a / b = reckonV 8 a b) := by
          show _ = _
          rw [← hE.out, wrapU, Int.tdiv_eq_ediv_of_nonneg q.1]
          have h1 : 0 ≤ a / b := Int.ediv_nonneg q.1 r.1
          have h2 : a / b ≤ a := Int.ediv_le_self _ q.1
          omega
        have e1 : a / 9223372036854775808 = 0 := by omega
        have e2 : b / 9223372036854775808 = 0 := by omega
        clear h0 q r h1 h2
        go_enter Try.func20, Try.ntmps20
        go_wp2
        all_goals (go_ret; first | exact ⟨ret_int hE2.out, rfl⟩ | exact ⟨ret_int hE.out, rfl⟩)
      · have hE : Hid (IntKind.u64.wrap (-(IntKind.u64.wrap (a.tdiv (IntKind.u64.wrap (-b))))) = reckonV 8 a b) := sdiv_pn q r h1 (by omega) h0
        have e1 : a / 9223372036854775808 = 0 := by omega
        have e2 : b / 9223372036854775808 = 1 := by omega
        have e3 : ¬ IntKind.u64.wrap (-b) = 0 := by rw [wrapU]; omega
        clear h0 q r h1 h2
        go_enter Try.func20, Try.ntmps20
        go_wp2
        all_goals (go_ret; exact ⟨ret_int hE.out, rfl⟩)
    · by_cases h2 : b < 9223372036854775808
      · have hE : Hid (IntKind.u64.wrap (-(IntKind.u64.wrap ((IntKind.u64.wrap (-a)).tdiv b))) = reckonV 8 a b) := sdiv_np q r (by omega) h2 h0
        have e1 : a / 9223372036854775808 = 1 := by omega
        have e2 : b / 9223372036854775808 = 0 := by omega
        clear h0 q r h1 h2
        go_enter Try.func20, Try.ntmps20
        go_wp2
        all_goals (go_ret; exact ⟨ret_int hE.out, rfl⟩)
      · have hE : Hid (IntKind.u64.wrap ((IntKind.u64.wrap (-a)).tdiv (IntKind.u64.wrap (-b))) = reckonV 8 a b) := sdiv_nn q r (by omega) (by omega) h0
        have e1 : a / 9223372036854775808 = 1 := by omega
        have e2 : b / 9223372036854775808 = 1 := by omega
        have e3 : ¬ IntKind.u64.wrap (-b) = 0 := by rw [wrapU]; omega
        clear h0 q r h1 h2
        go_enter Try.func20, Try.ntmps20
        go_wp2
        all_goals (go_ret; exact ⟨ret_int hE.out, rfl⟩)
theorem ret_ib {k : IntKind} {a b : Int} {c d : Bool} (h : a = b) (h' : c = d) : Ending.returned (.tuple #[.int k a, .bool c]) = .returned (.tuple #[.int k b, .bool d]) := by rw [h, h']
theorem ref_1 (a b : Int) (ha : Hid (U64 a)) (hb : Hid (U64 b)) (w : World) :
    Calls Try.prog 11 #[.int .i64 1, .int .u64 a, .int .u64 b] w fun e w' => e = .returned (.tuple #[.int .u64 (reckonV 1 a b), .bool true]) ∧ w' = w := by
  have b0 := hb.out.1
  have q0 : 0 ≤ b % 64 := by omega
  have q1 : b % 64 < 64 := by omega
  go_enter Try.func11, Try.ntmps11
  go_wp2
  go_ret2
  exact ⟨ret_ib (by simp only [reckonV, wrapU, reduceIte, Int.reduceEq]) rfl, rfl⟩
theorem ref_2 (a b : Int) (ha : Hid (U64 a)) (hb : Hid (U64 b)) (w : World) :
    Calls Try.prog 11 #[.int .i64 2, .int .u64 a, .int .u64 b] w fun e w' => e = .returned (.tuple #[.int .u64 (reckonV 2 a b), .bool true]) ∧ w' = w := by
  have b0 := hb.out.1
  have q0 : 0 ≤ b % 64 := by omega
  have q1 : b % 64 < 64 := by omega
  go_enter Try.func11, Try.ntmps11
  go_wp2
  go_ret2
  exact ⟨ret_ib (by simp only [reckonV, wrapU, reduceIte, Int.reduceEq]) rfl, rfl⟩
theorem ref_3 (a b : Int) (ha : Hid (U64 a)) (hb : Hid (U64 b)) (w : World) :
    Calls Try.prog 11 #[.int .i64 3, .int .u64 a, .int .u64 b] w fun e w' => e = .returned (.tuple #[.int .u64 (reckonV 3 a b), .bool true]) ∧ w' = w := by
  have b0 := hb.out.1
  have q0 : 0 ≤ b % 64 := by omega
  have q1 : b % 64 < 64 := by omega
  go_enter Try.func11, Try.ntmps11
  go_wp2
  go_ret2
  exact ⟨ret_ib (by simp only [reckonV, reduceIte, Int.reduceEq]) rfl, rfl⟩
theorem ref_4 (a b : Int) (ha : Hid (U64 a)) (hb : Hid (U64 b)) (w : World) :
    Calls Try.prog 11 #[.int .i64 4, .int .u64 a, .int .u64 b] w fun e w' => e = .returned (.tuple #[.int .u64 (reckonV 4 a b), .bool true]) ∧ w' = w := by
  have b0 := hb.out.1
  have q0 : 0 ≤ b % 64 := by omega
  have q1 : b % 64 < 64 := by omega
  go_enter Try.func11, Try.ntmps11
  go_wp2
  go_ret2
  exact ⟨ret_ib (by simp only [reckonV, reduceIte, Int.reduceEq]) rfl, rfl⟩
theorem ref_5 (a b : Int) (ha : Hid (U64 a)) (hb : Hid (U64 b)) (w : World) :
    Calls Try.prog 11 #[.int .i64 5, .int .u64 a, .int .u64 b] w fun e w' => e = .returned (.tuple #[.int .u64 (reckonV 5 a b), .bool true]) ∧ w' = w := by
  have b0 := hb.out.1
  have q0 : 0 ≤ b % 64 := by omega
  have q1 : b % 64 < 64 := by omega
  go_enter Try.func11, Try.ntmps11
  go_wp2
  go_ret2
  exact ⟨ret_ib (by simp only [reckonV, reduceIte, Int.reduceEq]) rfl, rfl⟩
theorem ref_6 (a b : Int) (ha : Hid (U64 a)) (hb : Hid (U64 b)) (w : World) :
    Calls Try.prog 11 #[.int .i64 6, .int .u64 a, .int .u64 b] w fun e w' => e = .returned (.tuple #[.int .u64 (reckonV 6 a b), .bool true]) ∧ w' = w := by
  have b0 := hb.out.1
  have q0 : 0 ≤ b % 64 := by omega
  have q1 : b % 64 < 64 := by omega
  go_enter Try.func11, Try.ntmps11
  go_wp2
  go_ret2
  exact ⟨ret_ib (by simp only [reckonV, wrapU, reduceIte, Int.reduceEq]) rfl, rfl⟩
theorem ref_7 (a b : Int) (ha : Hid (U64 a)) (hb : Hid (U64 b)) (w : World) :
    Calls Try.prog 11 #[.int .i64 7, .int .u64 a, .int .u64 b] w fun e w' => e = .returned (.tuple #[.int .u64 (reckonV 7 a b), .bool true]) ∧ w' = w := by
  have b0 := hb.out.1
  have q0 : 0 ≤ b % 64 := by omega
  have q1 : b % 64 < 64 := by omega
  by_cases h : b = 0
  · subst h
    go_enter Try.func11, Try.ntmps11
    go_wp2
    go_ret2
    exact ⟨rfl, rfl⟩
  · have hz : (b == 0) = false := by simpa using h
    have hE : Hid (IntKind.u64.wrap (a.tdiv b) = reckonV 7 a b) := by
      show _ = _
      have ha := ha.out
      have hb := hb.out
      simp only [reckonV, reduceIte, Int.reduceEq, if_neg h]
      rw [wrapU, Int.tdiv_eq_ediv_of_nonneg ha.1]
      have h1 : 0 ≤ a / b := Int.ediv_nonneg ha.1 hb.1
      have h2 : a / b ≤ a := Int.ediv_le_self _ ha.1
      have h3 := ha.2
      omega
    go_enter Try.func11, Try.ntmps11
    go_wp2
    go_ret2
    exact ⟨ret_ib hE.out rfl, rfl⟩
theorem ref_8 (a b : Int) (ha : Hid (U64 a)) (hb : Hid (U64 b)) (w : World) :
    Calls Try.prog 11 #[.int .i64 8, .int .u64 a, .int .u64 b] w fun e w' => e = .returned (.tuple #[.int .u64 (reckonV 8 a b), .bool true]) ∧ w' = w := by
  have b0 := hb.out.1
  have q0 : 0 ≤ b % 64 := by omega
  have q1 : b % 64 < 64 := by omega
  go_enter Try.func11, Try.ntmps11
  go_wp2_with fail
  refine (divided_c _ _ ha hb _).mono ?_
  rintro e w' ⟨rfl, rfl⟩
  go_wp2
  go_ret2
  exact ⟨rfl, rfl⟩
theorem ref_9 (a b : Int) (ha : Hid (U64 a)) (hb : Hid (U64 b)) (w : World) :
    Calls Try.prog 11 #[.int .i64 9, .int .u64 a, .int .u64 b] w fun e w' => e = .returned (.tuple #[.int .u64 (reckonV 9 a b), .bool true]) ∧ w' = w := by
  have b0 := hb.out.1
  have q0 : 0 ≤ b % 64 := by omega
  have q1 : b % 64 < 64 := by omega
  have hE : Hid (shlV a (b % 64).toNat = reckonV 9 a b) := by show _ = _; simp only [reckonV, shlV, reduceIte, Int.reduceEq]
  have hz : Hid (shlV a 0 = a) := shl_zero ha.out
  go_enter Try.func11, Try.ntmps11
  go_wp2
  go_loop [1, 9] (fun o i => ∃ k : Nat, k ≤ (b % 64).toNat ∧ i = .int .i64 k ∧ o = .int .u64 (shlV a k))
      (fun _ i => (b % 64).toNat - (intOf i).toNat)
  case atStart => exact ⟨0, Nat.zero_le _, rfl, by rw [hz.out]⟩
  case round =>
    obtain ⟨k, hk, rfl, rfl⟩ := hrel
    by_cases hlt : (k : Int) < b % 64
    · go_wp2
      refine ⟨⟨k + 1, by omega, by go_num, ?_⟩, ?_⟩
      · rw [shl_step]
      · simp [intOf]; omega
    · obtain rfl : k = (b % 64).toNat := by omega
      go_wp2
      go_ret2
      exact ⟨ret_ib hE.out rfl, rfl⟩
theorem ref_10 (a b : Int) (ha : Hid (U64 a)) (hb : Hid (U64 b)) (w : World) :
    Calls Try.prog 11 #[.int .i64 10, .int .u64 a, .int .u64 b] w fun e w' => e = .returned (.tuple #[.int .u64 (reckonV 10 a b), .bool true]) ∧ w' = w := by
  have b0 := hb.out.1
  have q0 : 0 ≤ b % 64 := by omega
  have q1 : b % 64 < 64 := by omega
  have hE : a / 2 ^ (b % 64).toNat = reckonV 10 a b := by simp only [reckonV, reduceIte, Int.reduceEq]
  replace hE : Hid (a / 2 ^ (b % 64).toNat = reckonV 10 a b) := hE
  have hT := fun w => turned_0 (fun k => a / 2 ^ k) (fun k => (div_lt ha.out).1) (b % 64) q0 (by omega) (fun k _ => shr_step ha.out) w
  simp only [Int.pow_zero, Int.ediv_one] at hT
  go_enter Try.func11, Try.ntmps11
  go_wp2_with fail
  refine (hT _).mono ?_
  rintro e w' ⟨rfl, rfl⟩
  go_wp2
  go_ret2
  exact ⟨ret_ib hE.out rfl, rfl⟩
theorem ref_11 (a b : Int) (ha : Hid (U64 a)) (hb : Hid (U64 b)) (w : World) :
    Calls Try.prog 11 #[.int .i64 11, .int .u64 a, .int .u64 b] w fun e w' => e = .returned (.tuple #[.int .u64 (reckonV 11 a b), .bool true]) ∧ w' = w := by
  have b0 := hb.out.1
  have q0 : 0 ≤ b % 64 := by omega
  have q1 : b % 64 < 64 := by omega
  have hE : Hid (sarV a (b % 64).toNat = reckonV 11 a b) := by show _ = _; simp only [reckonV, sarV, reduceIte, Int.reduceEq]
  by_cases h : a < 9223372036854775808
  · have hT := fun w => turned_0 (fun k => sarV a k) (fun k => sar_in.1) (b % 64) q0 (by omega) (fun k _ => by rw [sar_pos ha.out h, sar_pos ha.out h]; exact shr_step ha.out) w
    simp only [sar_zero ha.out] at hT
    have e1 : a / 9223372036854775808 = 0 := by have := ha.out.1; omega
    clear h
    go_enter Try.func11, Try.ntmps11
    go_wp2_with fail
    refine (hT _).mono ?_
    rintro e w' ⟨rfl, rfl⟩
    go_wp2
    go_ret2
    exact ⟨ret_ib hE.out rfl, rfl⟩
  · have hT := fun w => turned_1 (fun k => sarV a k) (fun k => sar_in.1) (b % 64) q0 (by omega) (fun k _ => sar_step ha.out (by omega)) w
    simp only [sar_zero ha.out] at hT
    have e1 : a / 9223372036854775808 = 1 := by have := ha.out.2; omega
    clear h
    go_enter Try.func11, Try.ntmps11
    go_wp2_with fail
    refine (hT _).mono ?_
    rintro e w' ⟨rfl, rfl⟩
    go_wp2
    go_ret2
    exact ⟨ret_ib hE.out rfl, rfl⟩
theorem rol_all (a : Int) (ha : U64 a) : ∃ V : Nat → Int, V 0 = a ∧ (∀ k, 0 ≤ V k) ∧ (∀ k, k < 63 → IntKind.u64.wrap (IntKind.u64.wrap ((V k).tdiv 2) + V k % 2 * 9223372036854775808) = V (k + 1)) ∧ ∀ k, k < 64 → V k = rolV a k := by
  refine ⟨fun k => if k < 64 then rolV a k else 0, ?_, ?_, ?_, ?_⟩
  · simp [rol_zero]
  · intro k
    dsimp only
    split
    · exact (rol_in ha (by omega)).1
    · omega
  · intro k hk
    dsimp only
    rw [if_pos (by omega), if_pos (by omega)]
    exact rol_step ha hk
  · intro k hk
    dsimp only
    rw [if_pos hk]
theorem ref_12 (a b : Int) (ha : Hid (U64 a)) (hb : Hid (U64 b)) (w : World) :
    Calls Try.prog 11 #[.int .i64 12, .int .u64 a, .int .u64 b] w fun e w' => e = .returned (.tuple #[.int .u64 (reckonV 12 a b), .bool true]) ∧ w' = w := by
  have b0 := hb.out.1
  have q0 : 0 ≤ b % 64 := by omega
  have q1 : b % 64 < 64 := by omega
  obtain ⟨V, hV0, hV1, hV2, hV3⟩ := rol_all a ha.out
  have hE : Hid (V (b % 64).toNat = reckonV 12 a b) := by
    show _ = _
    simp only [reckonV, reduceIte, Int.reduceEq]
    rw [hV3 _ (by omega), ← ror_num ha.out (by omega)]
    congr 1
    omega
  have hT := fun w => turned_2 V hV1 (b % 64) q0 (by omega) hV2 w
  rw [hV0] at hT
  clear hV0 hV1 hV2 hV3
  go_enter Try.func11, Try.ntmps11
  go_wp2_with fail
  refine (hT _).mono ?_
  rintro e w' ⟨rfl, rfl⟩
  go_wp2
  go_ret2
  exact ⟨ret_ib hE.out rfl, rfl⟩
theorem ref_13 (a b : Int) (ha : Hid (U64 a)) (hb : Hid (U64 b)) (w : World) :
    Calls Try.prog 11 #[.int .i64 13, .int .u64 a, .int .u64 b] w fun e w' => e = .returned (.tuple #[.int .u64 (reckonV 13 a b), .bool true]) ∧ w' = w := by
  have b0 := hb.out.1
  have q0 : 0 ≤ b % 64 := by omega
  have q1 : b % 64 < 64 := by omega
  go_enter Try.func11, Try.ntmps11
  go_wp2_with (first | (go_at_call 22; refine (truth_c _ _).mono ?_; rintro e w' ⟨rfl, rfl⟩))
  go_ret2
  exact ⟨ret_ib (by simp only [reckonV, reduceIte, Int.reduceEq]) rfl, rfl⟩
theorem ref_14 (a b : Int) (ha : Hid (U64 a)) (hb : Hid (U64 b)) (w : World) :
    Calls Try.prog 11 #[.int .i64 14, .int .u64 a, .int .u64 b] w fun e w' => e = .returned (.tuple #[.int .u64 (reckonV 14 a b), .bool true]) ∧ w' = w := by
  have b0 := hb.out.1
  have q0 : 0 ≤ b % 64 := by omega
  have q1 : b % 64 < 64 := by omega
  go_enter Try.func11, Try.ntmps11
  go_wp2_with (first | (go_at_call 22; refine (truth_c _ _).mono ?_; rintro e w' ⟨rfl, rfl⟩))
  go_ret2
  exact ⟨ret_ib (by simp only [reckonV, reduceIte, Int.reduceEq]) rfl, rfl⟩
theorem ref_15 (a b : Int) (ha : Hid (U64 a)) (hb : Hid (U64 b)) (w : World) :
    Calls Try.prog 11 #[.int .i64 15, .int .u64 a, .int .u64 b] w fun e w' => e = .returned (.tuple #[.int .u64 (reckonV 15 a b), .bool true]) ∧ w' = w := by
  have b0 := hb.out.1
  have q0 : 0 ≤ b % 64 := by omega
  have q1 : b % 64 < 64 := by omega
  go_enter Try.func11, Try.ntmps11
  go_wp2_with (first | (go_at_call 22; refine (truth_c _ _).mono ?_; rintro e w' ⟨rfl, rfl⟩) | (go_at_call 23; refine (below_c _ _ ha hb _).mono ?_; rintro e w' ⟨rfl, rfl⟩))
  go_ret2
  exact ⟨ret_ib (by simp only [reckonV, reduceIte, Int.reduceEq]) rfl, rfl⟩
theorem kind_cases {k : Int} (h : kindB k = true) : k = 1 ∨ k = 2 ∨ k = 3 ∨ k = 4 ∨ k = 5 ∨ k = 6 ∨ k = 7 ∨ k = 8 ∨ k = 9 ∨ k = 10 ∨ k = 11 ∨ k = 12 ∨ k = 13 ∨ k = 14 ∨ k = 15 := by
  have : 1 ≤ k ∧ k ≤ 15 := by simpa [kindB] using h
  omega
theorem reckonV_none {k a b : Int} (h : kindB k = false) : reckonV k a b = 0 := by
  have hn : ¬ (1 ≤ k ∧ k ≤ 15) := by simpa [kindB] using h
  unfold reckonV
  repeat rw [if_neg (by omega)]
set_option maxHeartbeats 1000000 in
theorem ref_none (k a b : Int) (hk : kindB k = false) (hb : Hid (U64 b)) (w : World) :
    Calls Try.prog 11 #[.int .i64 k, .int .u64 a, .int .u64 b] w fun e w' => e = .returned (.tuple #[.int .u64 0, .bool false]) ∧ w' = w := by
  have b0 := hb.out.1
  have q0 : 0 ≤ b % 64 := by omega
  have q1 : b % 64 < 64 := by omega
  have hn : ¬ (1 ≤ k ∧ k ≤ 15) := by simpa [kindB] using hk
  have n1 : (k == 1) = false := by simp; omega
  have n2 : (k == 2) = false := by simp; omega
  have n3 : (k == 3) = false := by simp; omega
  have n4 : (k == 4) = false := by simp; omega
  have n5 : (k == 5) = false := by simp; omega
  have n6 : (k == 6) = false := by simp; omega
  have n7 : (k == 7) = false := by simp; omega
  have n8 : (k == 8) = false := by simp; omega
  have n9 : (k == 9) = false := by simp; omega
  have n10 : (k == 10) = false := by simp; omega
  have n11 : (k == 11) = false := by simp; omega
  have n12 : (k == 12) = false := by simp; omega
  have n13 : (k == 13) = false := by simp; omega
  have n14 : (k == 14) = false := by simp; omega
  have n15 : (k == 15) = false := by simp; omega
  clear hn hk
  go_enter Try.func11, Try.ntmps11
  go_wp2
  go_ret2
  exact ⟨rfl, rfl⟩
theorem refReckon_c (k a b : Int) (ha : Hid (U64 a)) (hb : Hid (U64 b)) (w : World) :
    Calls Try.prog 11 #[.int .i64 k, .int .u64 a, .int .u64 b] w fun e w' => e = .returned (.tuple #[.int .u64 (reckonV k a b), .bool (kindB k)]) ∧ w' = w := by
  cases h : kindB k with
  | false =>
    rw [reckonV_none h]
    exact ref_none k a b h hb w
  | true =>
    rcases kind_cases h with rfl | rfl | rfl | rfl | rfl | rfl | rfl | rfl | rfl | rfl | rfl | rfl | rfl | rfl | rfl
    · exact ref_1 a b ha hb w
    · exact ref_2 a b ha hb w
    · exact ref_3 a b ha hb w
    · exact ref_4 a b ha hb w
    · exact ref_5 a b ha hb w
    · exact ref_6 a b ha hb w
    · exact ref_7 a b ha hb w
    · exact ref_8 a b ha hb w
    · exact ref_9 a b ha hb w
    · exact ref_10 a b ha hb w
    · exact ref_11 a b ha hb w
    · exact ref_12 a b ha hb w
    · exact ref_13 a b ha hb w
    · exact ref_14 a b ha hb w
    · exact ref_15 a b ha hb w
end Go.Proofs.Ytakmnbahogogiaa
