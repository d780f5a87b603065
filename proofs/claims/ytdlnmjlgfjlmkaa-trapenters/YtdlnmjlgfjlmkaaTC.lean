/- The document's own answer to chapter 7: contracts, for every state. -/
import Derived.Test.YtdlnmjlgfjlmkaaTP
namespace Go.Proofs.Ytdlnmjlgfjlmkaa
open Go.RowKit
set_option linter.unusedVariables false

set_option maxHeartbeats 1000000 in
theorem refPstate_c (c : Cor) (w : World) : Calls Try.prog 13 #[c.val] w fun e w' => e = .returned (vU (pstV c)) ∧ Below w.heap.size w w' := by
  have e1 := wr_mask c
  have e2 := wr_level c
  have e3 := wr_both c
  go_enter Try.func13, Try.ntmps13
  go_upto_region 1 with fail
  have H := own_one c w
  generalize w.alloc (Obj.cells c.cells 26) = w1 at H ⊢
  go_wp2_with (first | ((with_reducible refine wpList_all H rfl _ rfl rfl (by first | exact List.mem_cons_self | exact List.mem_cons_of_mem _ (List.mem_cons_self) | exact List.mem_cons_of_mem _ (List.mem_cons_of_mem _ (List.mem_cons_self)) | exact List.mem_cons_of_mem _ (List.mem_cons_of_mem _ (List.mem_cons_of_mem _ (List.mem_cons_self))) | exact List.mem_cons_of_mem _ (List.mem_cons_of_mem _ (List.mem_cons_of_mem _ (List.mem_cons_of_mem _ (List.mem_cons_self)))) | exact List.mem_cons_of_mem _ (List.mem_cons_of_mem _ (List.mem_cons_of_mem _ (List.mem_cons_of_mem _ (List.mem_cons_of_mem _ (List.mem_cons_self))))) | exact List.mem_cons_of_mem _ (List.mem_cons_of_mem _ (List.mem_cons_of_mem _ (List.mem_cons_of_mem _ (List.mem_cons_of_mem _ (List.mem_cons_of_mem _ (List.mem_cons_self))))))) ?_); simp only [Act.put, List.setIfInBounds_toArray, List.set_cons_succ, List.set_cons_zero]) | ((with_reducible refine wpList_get0 H rfl _ _ rfl _ rfl (by decide) _ (by first | exact Cor.a33 _ | exact Cor.a34 _ | exact Cor.a35 _ | exact Cor.a36 _ | exact Cor.a37 _ | exact Cor.a38 _ | exact Cor.a39 _ | exact Cor.a40 _ | exact Cor.a41 _ | exact Cor.a42 _ | exact Cor.a43 _ | exact Cor.a44 _ | exact Cor.a45 _ | exact Cor.a46 _ | exact Cor.a47 _ | exact Cor.a48 _) ?_); simp only [Act.put, List.setIfInBounds_toArray, List.set_cons_succ, List.set_cons_zero]) | (go_at_call 25; refine (refNzcv_c _ _).mono ?_; rintro e w1 ⟨rfl, hb⟩; replace H := H.grow hb; clear hb; dsimp only))
  all_goals (go_ret; refine ⟨ret_int ?_, H.below⟩; simp_all [pstV])
def barN (k : Nat) : Bool := decide (31 < k) || (decide (k < 28) && decide (k ≠ 7) && decide (4 < k))
theorem bar_all : ((List.range 64).all fun k => (18446744073709551616 - (4026531999 + 1) : Nat).testBit k == barN k) = true := by decide +kernel
theorem bar_at (k : Nat) (hk : k < 64) : (18446744073709551616 - (4026531999 + 1) : Nat).testBit k = barN k := by
  have := List.all_eq_true.1 bar_all k (List.mem_range.2 hk)
  simpa using this
theorem bit_tm {v : Int} (h : U64 v) (k : Nat) : (v / 2 ^ k).tmod 2 = 1 ↔ v.toNat.testBit k = true := by
  have := tm_bit h (2 ^ k) k rfl
  obtain ⟨V, rfl, hV⟩ := nat_of h
  rw [bitB_nat] at this
  rw [Int.toNat_natCast, ← this]
  simp
theorem may_no {v : Int} (h : U64 v) (k : Nat) (hk : k < 64) (hb : barN k = true) (h1 : (v / 2 ^ k).tmod 2 = 1) : mayB v = false := by
  rw [bit_tm h] at h1
  obtain ⟨V, rfl, hV⟩ := nat_of h
  unfold mayB
  have e := andNot64 V 4026531999 hV (by decide +kernel)
  have : ¬ bits .andNot .u64 (V : Int) 4026531999 = 0 := fun h0 => by
    have e2 : ((V &&& (18446744073709551616 - (4026531999 + 1)) : Nat) : Int) = 0 := e.symm.trans h0
    have e3 : V &&& (18446744073709551616 - (4026531999 + 1)) = 0 := by exact_mod_cast e2
    have : (V &&& (18446744073709551616 - (4026531999 + 1))).testBit k = true := by
      rw [Nat.testBit_and, bar_at k hk, hb]
      simpa using h1
    rw [e3] at this
    simp at this
  simp [this]
theorem may_yes {v : Int} (h : U64 v) (hall : ∀ k, k < 64 → barN k = true → ¬ (v / 2 ^ k).tmod 2 = 1) : mayB v = (v % 32 == 0 || v % 32 == 5) := by
  have hall' : ∀ k, k < 64 → barN k = true → v.toNat.testBit k = false := fun k hk hb => by
    have := hall k hk hb
    rw [bit_tm h] at this
    simpa using this
  obtain ⟨V, rfl, hV⟩ := nat_of h
  unfold mayB
  have e := andNot64 V 4026531999 hV (by decide +kernel)
  have : V &&& (18446744073709551616 - (4026531999 + 1)) = 0 := Nat.eq_of_testBit_eq fun i => by
    rw [Nat.testBit_and, Nat.zero_testBit]
    by_cases hi : i < 64
    · rw [bar_at i hi]
      cases hb : barN i
      · simp
      · have := hall' i hi hb
        simp only [Int.toNat_natCast] at this
        simp [this]
    · have : V.testBit i = false := Nat.testBit_lt_two_pow (Nat.lt_of_lt_of_le (show V < 2 ^ 64 from hV) (Nat.pow_le_pow_right (Nat.zero_lt_two) (by omega : 64 ≤ i)))
      simp [this]
  rw [this] at e
  have e' : bits .andNot .u64 (V : Int) 4026531999 = 0 := e
  rw [e']
  simp
set_option maxHeartbeats 1000000 in
theorem refMay_c (v : Int) (hv : Hid (U64 v)) (w : World) : Calls Try.prog 16 #[vU v] w fun e w' => e = .returned (.bool (mayB v)) ∧ w' = w := by
  have e32 : v.tmod 32 = v % 32 := Int.tmod_eq_emod_of_nonneg hv.out.1
  go_enter Try.func16, Try.ntmps16
  go_wp2
  go_loop [3] (fun z => ∃ k : Nat, k ≤ 64 ∧ Hid (∀ j, j < k → barN j = true → ¬ (v / 2 ^ j).tmod 2 = 1) ∧ z = .int .i64 k) (fun z => 64 - (intOf z).toNat)
  case atStart => exact ⟨0, Nat.zero_le _, fun j h => absurd h (Nat.not_lt_zero j), rfl⟩
  case round =>
    obtain ⟨k, hk, hn, rfl⟩ := hrel
    by_cases hlt : (k : Int) < 64
    · cases hb : barN k with
      | true =>
        by_cases h1 : (v / 2 ^ k).tmod 2 = 1
        · have hy : Hid (mayB v = false) := may_no hv.out k (by omega) hb h1
          have hb' : 31 < k ∨ (k < 28 ∧ k ≠ 7 ∧ 4 < k) := by simp [barN] at hb; omega
          clear hb
          rcases hb' with hb' | ⟨hb1, hb2, hb3⟩
          · have q : (31 : Int) < (k : Int) := by omega
            go_wp2
            go_ret
            exact ⟨ret_bool hy.out.symm, rfl⟩
          · have q1 : (k : Int) ≤ 31 := by omega
            have q2 : (k : Int) < 28 := by omega
            have q3 : ¬ (k : Int) = 7 := by omega
            have q4 : (4 : Int) < (k : Int) := by omega
            have q5 : ((k : Int) != 7) = true := by simpa using q3
            go_wp2
            go_ret
            exact ⟨ret_bool hy.out.symm, rfl⟩
        · have hn2 : Hid (∀ j, j < k + 1 → barN j = true → ¬ (v / 2 ^ j).tmod 2 = 1) := fun j hj => (Nat.lt_succ_iff_lt_or_eq.1 hj).elim (hn.out j) (fun e => by subst e; exact fun _ => h1)
          clear hb
          go_wp2
          go_round
          case rel => exact ⟨k + 1, by omega, hn2, by go_num⟩
          case measure => simp [intOf]; omega
      | false =>
        have hn2 : Hid (∀ j, j < k + 1 → barN j = true → ¬ (v / 2 ^ j).tmod 2 = 1) := fun j hj => (Nat.lt_succ_iff_lt_or_eq.1 hj).elim (hn.out j) (fun e => by subst e; rw [hb]; exact fun h => absurd h (by decide))
        have hb' : k ≤ 31 ∧ (28 ≤ k ∨ k = 7 ∨ k ≤ 4) := by simp [barN] at hb; omega
        clear hb
        obtain ⟨hb0, hb'⟩ := hb'
        have q0 : (k : Int) ≤ 31 := by omega
        by_cases h1 : (v / 2 ^ k).tmod 2 = 1
        · rcases hb' with hb' | rfl | hb'
          · have q1 : ¬ (k : Int) < 28 := by omega
            go_wp2
            go_round
            case rel => exact ⟨k + 1, by omega, hn2, by go_num⟩
            case measure => simp [intOf]; omega
          · go_wp2
            go_round
            case rel => exact ⟨8, by omega, hn2, by go_num⟩
            case measure => simp [intOf]
          · have q1 : (k : Int) < 28 := by omega
            have q2 : ¬ (k : Int) = 7 := by omega
            have q3 : (k : Int) ≤ 4 := by omega
            have q5 : ((k : Int) != 7) = true := by simpa using q2
            go_wp2
            go_round
            case rel => exact ⟨k + 1, by omega, hn2, by go_num⟩
            case measure => simp [intOf]; omega
        · go_wp2
          go_round
          case rel => exact ⟨k + 1, by omega, hn2, by go_num⟩
          case measure => simp [intOf]; omega
    · have hy : Hid (mayB v = (v % 32 == 0 || v % 32 == 5)) := may_yes hv.out fun j hj => hn.out j (by omega)
      clear hn
      go_wp2
      all_goals (go_ret; refine ⟨ret_bool ?_, rfl⟩; rw [hy.out]; try simp_all)
set_option maxHeartbeats 2000000 in
theorem in_c (c : Cor) (m A B : Int) (e1 : IntKind.u64.wrap (c.vbar + (if c.el = 0 then 1024 else 512)) = A) (e2 : IntKind.u64.wrap (A + m) = B) (w : World) : Calls Try.prog 23 #[c.val, vU m] w fun e w' => e = .returned (inV c B).val ∧ Below w.heap.size w w' := by
  by_cases h : c.el = 0
  · rw [if_pos h] at e1
    go_enter Try.func23, Try.ntmps23
    go_upto_region 1 with fail
    generalize hW : (w.alloc (Obj.cells c.cells 26)).alloc _ = w1
    have H : Own w [(w.heap.size + 1, nilC), (w.heap.size, c)] w1 := by rw [← hW]; exact own_two c w _ (by kernel_rfl)
    clear hW
    go_wp2_with (first | ((with_reducible refine wpList_all H rfl _ rfl rfl (by first | exact List.mem_cons_self | exact List.mem_cons_of_mem _ (List.mem_cons_self) | exact List.mem_cons_of_mem _ (List.mem_cons_of_mem _ (List.mem_cons_self)) | exact List.mem_cons_of_mem _ (List.mem_cons_of_mem _ (List.mem_cons_of_mem _ (List.mem_cons_self))) | exact List.mem_cons_of_mem _ (List.mem_cons_of_mem _ (List.mem_cons_of_mem _ (List.mem_cons_of_mem _ (List.mem_cons_self)))) | exact List.mem_cons_of_mem _ (List.mem_cons_of_mem _ (List.mem_cons_of_mem _ (List.mem_cons_of_mem _ (List.mem_cons_of_mem _ (List.mem_cons_self))))) | exact List.mem_cons_of_mem _ (List.mem_cons_of_mem _ (List.mem_cons_of_mem _ (List.mem_cons_of_mem _ (List.mem_cons_of_mem _ (List.mem_cons_of_mem _ (List.mem_cons_self))))))) ?_); simp only [Act.put, List.setIfInBounds_toArray, List.set_cons_succ, List.set_cons_zero]) | ((with_reducible refine wpList_get0 H rfl _ _ rfl _ rfl (by decide) _ (by first | exact Cor.a33 _ | exact Cor.a34 _ | exact Cor.a35 _ | exact Cor.a36 _ | exact Cor.a37 _ | exact Cor.a38 _ | exact Cor.a39 _ | exact Cor.a40 _ | exact Cor.a41 _ | exact Cor.a42 _ | exact Cor.a43 _ | exact Cor.a44 _ | exact Cor.a45 _ | exact Cor.a46 _ | exact Cor.a47 _ | exact Cor.a48 _) ?_); simp only [Act.put, List.setIfInBounds_toArray, List.set_cons_succ, List.set_cons_zero]) | ((with_reducible refine wpList_get1 H rfl _ _ rfl _ rfl (by decide) _ (by first | exact Cor.a33 _ | exact Cor.a34 _ | exact Cor.a35 _ | exact Cor.a36 _ | exact Cor.a37 _ | exact Cor.a38 _ | exact Cor.a39 _ | exact Cor.a40 _ | exact Cor.a41 _ | exact Cor.a42 _ | exact Cor.a43 _ | exact Cor.a44 _ | exact Cor.a45 _ | exact Cor.a46 _ | exact Cor.a47 _ | exact Cor.a48 _) ?_); simp only [Act.put, List.setIfInBounds_toArray, List.set_cons_succ, List.set_cons_zero]) | ((with_reducible refine wpList_get2 H rfl _ _ rfl _ rfl (by decide) _ (by first | exact Cor.a33 _ | exact Cor.a34 _ | exact Cor.a35 _ | exact Cor.a36 _ | exact Cor.a37 _ | exact Cor.a38 _ | exact Cor.a39 _ | exact Cor.a40 _ | exact Cor.a41 _ | exact Cor.a42 _ | exact Cor.a43 _ | exact Cor.a44 _ | exact Cor.a45 _ | exact Cor.a46 _ | exact Cor.a47 _ | exact Cor.a48 _) ?_); simp only [Act.put, List.setIfInBounds_toArray, List.set_cons_succ, List.set_cons_zero]) | ((with_reducible refine wpList_layI0 H rfl _ _ _ rfl _ rfl (by decide) _ _ rfl _ (by decide) (by first | exact Cor.s33 _ _ | exact Cor.s40 _ _ | exact Cor.s41 _ _ | exact Cor.s42 _ _ | exact Cor.s43 _ _ | exact Cor.s38 _ _ | exact Cor.s47 _ _ | exact Cor.s44 _ _ | exact Cor.s45 _ _ | exact Cor.s46 _ _) ?_); intro w2 H; simp only [Act.put]) | ((with_reducible refine wpList_layB0 H rfl _ _ _ rfl _ rfl (by decide) _ rfl _ (by decide) (by first | exact Cor.s39 _ _ | exact Cor.s48 _ _ | exact Cor.s34 _ _ | exact Cor.s35 _ _ | exact Cor.s36 _ _ | exact Cor.s37 _ _) ?_); intro w2 H; simp only [Act.put]) | ((with_reducible refine wpList_layI1 H rfl _ _ _ rfl _ rfl (by decide) _ _ rfl _ (by decide) (by first | exact Cor.s33 _ _ | exact Cor.s40 _ _ | exact Cor.s41 _ _ | exact Cor.s42 _ _ | exact Cor.s43 _ _ | exact Cor.s38 _ _ | exact Cor.s47 _ _ | exact Cor.s44 _ _ | exact Cor.s45 _ _ | exact Cor.s46 _ _) ?_); intro w2 H; simp only [Act.put]) | ((with_reducible refine wpList_layB1 H rfl _ _ _ rfl _ rfl (by decide) _ rfl _ (by decide) (by first | exact Cor.s39 _ _ | exact Cor.s48 _ _ | exact Cor.s34 _ _ | exact Cor.s35 _ _ | exact Cor.s36 _ _ | exact Cor.s37 _ _) ?_); intro w2 H; simp only [Act.put]) | ((with_reducible refine wpList_layI2 H rfl _ _ _ rfl _ rfl (by decide) _ _ rfl _ (by decide) (by first | exact Cor.s33 _ _ | exact Cor.s40 _ _ | exact Cor.s41 _ _ | exact Cor.s42 _ _ | exact Cor.s43 _ _ | exact Cor.s38 _ _ | exact Cor.s47 _ _ | exact Cor.s44 _ _ | exact Cor.s45 _ _ | exact Cor.s46 _ _) ?_); intro w2 H; simp only [Act.put]) | ((with_reducible refine wpList_layB2 H rfl _ _ _ rfl _ rfl (by decide) _ rfl _ (by decide) (by first | exact Cor.s39 _ _ | exact Cor.s48 _ _ | exact Cor.s34 _ _ | exact Cor.s35 _ _ | exact Cor.s36 _ _ | exact Cor.s37 _ _) ?_); intro w2 H; simp only [Act.put]) | ((with_reducible refine wpList_row0 H rfl _ _ rfl rfl _ rfl ?_); intro w2 H; simp only [Act.put]) | ((with_reducible refine wpList_row1 H rfl _ _ rfl rfl _ rfl ?_); intro w2 H; simp only [Act.put]) | ((with_reducible refine wpList_row2 H rfl _ _ rfl rfl _ rfl ?_); intro w2 H; simp only [Act.put]) | ((with_reducible refine wpList_new H rfl _ _ rfl _ rfl rfl ?_ ?_); (focus rfl); intro w2 H; simp only [Act.put]) | ((with_reducible refine wpList_build_nil rfl rfl ?_); simp only [Act.put, List.setIfInBounds_toArray, List.set_cons_succ, List.set_cons_zero]) | (go_at_call 13; refine (refPstate_c _ _).mono ?_; rintro e w1 ⟨rfl, hb⟩; replace H := H.grow hb; clear hb; dsimp only))
    refine bodyPost_ret (back_one rfl _ _ _ _ _ _ rfl (H.get (by first | exact List.mem_cons_self | exact List.mem_cons_of_mem _ (List.mem_cons_self) | exact List.mem_cons_of_mem _ (List.mem_cons_of_mem _ (List.mem_cons_self)) | exact List.mem_cons_of_mem _ (List.mem_cons_of_mem _ (List.mem_cons_of_mem _ (List.mem_cons_self))) | exact List.mem_cons_of_mem _ (List.mem_cons_of_mem _ (List.mem_cons_of_mem _ (List.mem_cons_of_mem _ (List.mem_cons_self)))) | exact List.mem_cons_of_mem _ (List.mem_cons_of_mem _ (List.mem_cons_of_mem _ (List.mem_cons_of_mem _ (List.mem_cons_of_mem _ (List.mem_cons_self))))) | exact List.mem_cons_of_mem _ (List.mem_cons_of_mem _ (List.mem_cons_of_mem _ (List.mem_cons_of_mem _ (List.mem_cons_of_mem _ (List.mem_cons_of_mem _ (List.mem_cons_self))))))))) rfl ?_
    exact ⟨rfl, H.below⟩
  · rw [if_neg h] at e1
    go_enter Try.func23, Try.ntmps23
    go_upto_region 1 with fail
    generalize hW : (w.alloc (Obj.cells c.cells 26)).alloc _ = w1
    have H : Own w [(w.heap.size + 1, nilC), (w.heap.size, c)] w1 := by rw [← hW]; exact own_two c w _ (by kernel_rfl)
    clear hW
    go_wp2_with (first | ((with_reducible refine wpList_all H rfl _ rfl rfl (by first | exact List.mem_cons_self | exact List.mem_cons_of_mem _ (List.mem_cons_self) | exact List.mem_cons_of_mem _ (List.mem_cons_of_mem _ (List.mem_cons_self)) | exact List.mem_cons_of_mem _ (List.mem_cons_of_mem _ (List.mem_cons_of_mem _ (List.mem_cons_self))) | exact List.mem_cons_of_mem _ (List.mem_cons_of_mem _ (List.mem_cons_of_mem _ (List.mem_cons_of_mem _ (List.mem_cons_self)))) | exact List.mem_cons_of_mem _ (List.mem_cons_of_mem _ (List.mem_cons_of_mem _ (List.mem_cons_of_mem _ (List.mem_cons_of_mem _ (List.mem_cons_self))))) | exact List.mem_cons_of_mem _ (List.mem_cons_of_mem _ (List.mem_cons_of_mem _ (List.mem_cons_of_mem _ (List.mem_cons_of_mem _ (List.mem_cons_of_mem _ (List.mem_cons_self))))))) ?_); simp only [Act.put, List.setIfInBounds_toArray, List.set_cons_succ, List.set_cons_zero]) | ((with_reducible refine wpList_get0 H rfl _ _ rfl _ rfl (by decide) _ (by first | exact Cor.a33 _ | exact Cor.a34 _ | exact Cor.a35 _ | exact Cor.a36 _ | exact Cor.a37 _ | exact Cor.a38 _ | exact Cor.a39 _ | exact Cor.a40 _ | exact Cor.a41 _ | exact Cor.a42 _ | exact Cor.a43 _ | exact Cor.a44 _ | exact Cor.a45 _ | exact Cor.a46 _ | exact Cor.a47 _ | exact Cor.a48 _) ?_); simp only [Act.put, List.setIfInBounds_toArray, List.set_cons_succ, List.set_cons_zero]) | ((with_reducible refine wpList_get1 H rfl _ _ rfl _ rfl (by decide) _ (by first | exact Cor.a33 _ | exact Cor.a34 _ | exact Cor.a35 _ | exact Cor.a36 _ | exact Cor.a37 _ | exact Cor.a38 _ | exact Cor.a39 _ | exact Cor.a40 _ | exact Cor.a41 _ | exact Cor.a42 _ | exact Cor.a43 _ | exact Cor.a44 _ | exact Cor.a45 _ | exact Cor.a46 _ | exact Cor.a47 _ | exact Cor.a48 _) ?_); simp only [Act.put, List.setIfInBounds_toArray, List.set_cons_succ, List.set_cons_zero]) | ((with_reducible refine wpList_get2 H rfl _ _ rfl _ rfl (by decide) _ (by first | exact Cor.a33 _ | exact Cor.a34 _ | exact Cor.a35 _ | exact Cor.a36 _ | exact Cor.a37 _ | exact Cor.a38 _ | exact Cor.a39 _ | exact Cor.a40 _ | exact Cor.a41 _ | exact Cor.a42 _ | exact Cor.a43 _ | exact Cor.a44 _ | exact Cor.a45 _ | exact Cor.a46 _ | exact Cor.a47 _ | exact Cor.a48 _) ?_); simp only [Act.put, List.setIfInBounds_toArray, List.set_cons_succ, List.set_cons_zero]) | ((with_reducible refine wpList_layI0 H rfl _ _ _ rfl _ rfl (by decide) _ _ rfl _ (by decide) (by first | exact Cor.s33 _ _ | exact Cor.s40 _ _ | exact Cor.s41 _ _ | exact Cor.s42 _ _ | exact Cor.s43 _ _ | exact Cor.s38 _ _ | exact Cor.s47 _ _ | exact Cor.s44 _ _ | exact Cor.s45 _ _ | exact Cor.s46 _ _) ?_); intro w2 H; simp only [Act.put]) | ((with_reducible refine wpList_layB0 H rfl _ _ _ rfl _ rfl (by decide) _ rfl _ (by decide) (by first | exact Cor.s39 _ _ | exact Cor.s48 _ _ | exact Cor.s34 _ _ | exact Cor.s35 _ _ | exact Cor.s36 _ _ | exact Cor.s37 _ _) ?_); intro w2 H; simp only [Act.put]) | ((with_reducible refine wpList_layI1 H rfl _ _ _ rfl _ rfl (by decide) _ _ rfl _ (by decide) (by first | exact Cor.s33 _ _ | exact Cor.s40 _ _ | exact Cor.s41 _ _ | exact Cor.s42 _ _ | exact Cor.s43 _ _ | exact Cor.s38 _ _ | exact Cor.s47 _ _ | exact Cor.s44 _ _ | exact Cor.s45 _ _ | exact Cor.s46 _ _) ?_); intro w2 H; simp only [Act.put]) | ((with_reducible refine wpList_layB1 H rfl _ _ _ rfl _ rfl (by decide) _ rfl _ (by decide) (by first | exact Cor.s39 _ _ | exact Cor.s48 _ _ | exact Cor.s34 _ _ | exact Cor.s35 _ _ | exact Cor.s36 _ _ | exact Cor.s37 _ _) ?_); intro w2 H; simp only [Act.put]) | ((with_reducible refine wpList_layI2 H rfl _ _ _ rfl _ rfl (by decide) _ _ rfl _ (by decide) (by first | exact Cor.s33 _ _ | exact Cor.s40 _ _ | exact Cor.s41 _ _ | exact Cor.s42 _ _ | exact Cor.s43 _ _ | exact Cor.s38 _ _ | exact Cor.s47 _ _ | exact Cor.s44 _ _ | exact Cor.s45 _ _ | exact Cor.s46 _ _) ?_); intro w2 H; simp only [Act.put]) | ((with_reducible refine wpList_layB2 H rfl _ _ _ rfl _ rfl (by decide) _ rfl _ (by decide) (by first | exact Cor.s39 _ _ | exact Cor.s48 _ _ | exact Cor.s34 _ _ | exact Cor.s35 _ _ | exact Cor.s36 _ _ | exact Cor.s37 _ _) ?_); intro w2 H; simp only [Act.put]) | ((with_reducible refine wpList_row0 H rfl _ _ rfl rfl _ rfl ?_); intro w2 H; simp only [Act.put]) | ((with_reducible refine wpList_row1 H rfl _ _ rfl rfl _ rfl ?_); intro w2 H; simp only [Act.put]) | ((with_reducible refine wpList_row2 H rfl _ _ rfl rfl _ rfl ?_); intro w2 H; simp only [Act.put]) | ((with_reducible refine wpList_new H rfl _ _ rfl _ rfl rfl ?_ ?_); (focus rfl); intro w2 H; simp only [Act.put]) | ((with_reducible refine wpList_build_nil rfl rfl ?_); simp only [Act.put, List.setIfInBounds_toArray, List.set_cons_succ, List.set_cons_zero]) | (go_at_call 13; refine (refPstate_c _ _).mono ?_; rintro e w1 ⟨rfl, hb⟩; replace H := H.grow hb; clear hb; dsimp only))
    refine bodyPost_ret (back_one rfl _ _ _ _ _ _ rfl (H.get (by first | exact List.mem_cons_self | exact List.mem_cons_of_mem _ (List.mem_cons_self) | exact List.mem_cons_of_mem _ (List.mem_cons_of_mem _ (List.mem_cons_self)) | exact List.mem_cons_of_mem _ (List.mem_cons_of_mem _ (List.mem_cons_of_mem _ (List.mem_cons_self))) | exact List.mem_cons_of_mem _ (List.mem_cons_of_mem _ (List.mem_cons_of_mem _ (List.mem_cons_of_mem _ (List.mem_cons_self)))) | exact List.mem_cons_of_mem _ (List.mem_cons_of_mem _ (List.mem_cons_of_mem _ (List.mem_cons_of_mem _ (List.mem_cons_of_mem _ (List.mem_cons_self))))) | exact List.mem_cons_of_mem _ (List.mem_cons_of_mem _ (List.mem_cons_of_mem _ (List.mem_cons_of_mem _ (List.mem_cons_of_mem _ (List.mem_cons_of_mem _ (List.mem_cons_self))))))))) rfl ?_
    exact ⟨rfl, H.below⟩
theorem in_vec (c : Cor) : IntKind.u64.wrap (c.vbar + (if c.el = 0 then 1024 else 512)) = vecV c := by
  rw [IntKind.wrap_u64]
  unfold vecV
  split <;> rfl
theorem in_0 (c : Cor) (w : World) : Calls Try.prog 23 #[c.val, vU 0] w fun e w' => e = .returned (inV c (vecV c)).val ∧ Below w.heap.size w w' :=
  in_c c 0 _ _ (in_vec c) (by rw [Int.add_zero, ← in_vec c, IntKind.wrap_u64, IntKind.wrap_u64, Int.emod_emod]) w
theorem in_128 (c : Cor) (w : World) : Calls Try.prog 23 #[c.val, vU 128] w fun e w' => e = .returned (inV c ((vecV c + 128) % 18446744073709551616)).val ∧ Below w.heap.size w w' :=
  in_c c 128 _ _ (in_vec c) (IntKind.wrap_u64 _) w
set_option maxHeartbeats 2000000 in
theorem refIrq_c (c : Cor) (w : World) : Calls Try.prog 11 #[c.val] w fun e w' => e = .returned (.tuple #[(irqV c).val, .bool (rightC c)]) ∧ Below w.heap.size w w' := by
  unfold irqV
  cases hr : rightC c
  all_goals
    go_enter Try.func11, Try.ntmps11
    go_upto_region 1 with fail
    generalize hW : (w.alloc (Obj.cells c.cells 26)).alloc _ = w1
    have H : Own w [(w.heap.size + 1, nilC), (w.heap.size, c)] w1 := by rw [← hW]; exact own_two c w _ (by kernel_rfl)
    clear hW
    go_wp2_with (first | ((with_reducible refine wpList_all H rfl _ rfl rfl (by first | exact List.mem_cons_self | exact List.mem_cons_of_mem _ (List.mem_cons_self) | exact List.mem_cons_of_mem _ (List.mem_cons_of_mem _ (List.mem_cons_self)) | exact List.mem_cons_of_mem _ (List.mem_cons_of_mem _ (List.mem_cons_of_mem _ (List.mem_cons_self))) | exact List.mem_cons_of_mem _ (List.mem_cons_of_mem _ (List.mem_cons_of_mem _ (List.mem_cons_of_mem _ (List.mem_cons_self)))) | exact List.mem_cons_of_mem _ (List.mem_cons_of_mem _ (List.mem_cons_of_mem _ (List.mem_cons_of_mem _ (List.mem_cons_of_mem _ (List.mem_cons_self))))) | exact List.mem_cons_of_mem _ (List.mem_cons_of_mem _ (List.mem_cons_of_mem _ (List.mem_cons_of_mem _ (List.mem_cons_of_mem _ (List.mem_cons_of_mem _ (List.mem_cons_self))))))) ?_); simp only [Act.put, List.setIfInBounds_toArray, List.set_cons_succ, List.set_cons_zero]) | ((with_reducible refine wpList_get0 H rfl _ _ rfl _ rfl (by decide) _ (by first | exact Cor.a33 _ | exact Cor.a34 _ | exact Cor.a35 _ | exact Cor.a36 _ | exact Cor.a37 _ | exact Cor.a38 _ | exact Cor.a39 _ | exact Cor.a40 _ | exact Cor.a41 _ | exact Cor.a42 _ | exact Cor.a43 _ | exact Cor.a44 _ | exact Cor.a45 _ | exact Cor.a46 _ | exact Cor.a47 _ | exact Cor.a48 _) ?_); simp only [Act.put, List.setIfInBounds_toArray, List.set_cons_succ, List.set_cons_zero]) | ((with_reducible refine wpList_get1 H rfl _ _ rfl _ rfl (by decide) _ (by first | exact Cor.a33 _ | exact Cor.a34 _ | exact Cor.a35 _ | exact Cor.a36 _ | exact Cor.a37 _ | exact Cor.a38 _ | exact Cor.a39 _ | exact Cor.a40 _ | exact Cor.a41 _ | exact Cor.a42 _ | exact Cor.a43 _ | exact Cor.a44 _ | exact Cor.a45 _ | exact Cor.a46 _ | exact Cor.a47 _ | exact Cor.a48 _) ?_); simp only [Act.put, List.setIfInBounds_toArray, List.set_cons_succ, List.set_cons_zero]) | ((with_reducible refine wpList_get2 H rfl _ _ rfl _ rfl (by decide) _ (by first | exact Cor.a33 _ | exact Cor.a34 _ | exact Cor.a35 _ | exact Cor.a36 _ | exact Cor.a37 _ | exact Cor.a38 _ | exact Cor.a39 _ | exact Cor.a40 _ | exact Cor.a41 _ | exact Cor.a42 _ | exact Cor.a43 _ | exact Cor.a44 _ | exact Cor.a45 _ | exact Cor.a46 _ | exact Cor.a47 _ | exact Cor.a48 _) ?_); simp only [Act.put, List.setIfInBounds_toArray, List.set_cons_succ, List.set_cons_zero]) | ((with_reducible refine wpList_layI0 H rfl _ _ _ rfl _ rfl (by decide) _ _ rfl _ (by decide) (by first | exact Cor.s33 _ _ | exact Cor.s40 _ _ | exact Cor.s41 _ _ | exact Cor.s42 _ _ | exact Cor.s43 _ _ | exact Cor.s38 _ _ | exact Cor.s47 _ _ | exact Cor.s44 _ _ | exact Cor.s45 _ _ | exact Cor.s46 _ _) ?_); intro w2 H; simp only [Act.put]) | ((with_reducible refine wpList_layB0 H rfl _ _ _ rfl _ rfl (by decide) _ rfl _ (by decide) (by first | exact Cor.s39 _ _ | exact Cor.s48 _ _ | exact Cor.s34 _ _ | exact Cor.s35 _ _ | exact Cor.s36 _ _ | exact Cor.s37 _ _) ?_); intro w2 H; simp only [Act.put]) | ((with_reducible refine wpList_layI1 H rfl _ _ _ rfl _ rfl (by decide) _ _ rfl _ (by decide) (by first | exact Cor.s33 _ _ | exact Cor.s40 _ _ | exact Cor.s41 _ _ | exact Cor.s42 _ _ | exact Cor.s43 _ _ | exact Cor.s38 _ _ | exact Cor.s47 _ _ | exact Cor.s44 _ _ | exact Cor.s45 _ _ | exact Cor.s46 _ _) ?_); intro w2 H; simp only [Act.put]) | ((with_reducible refine wpList_layB1 H rfl _ _ _ rfl _ rfl (by decide) _ rfl _ (by decide) (by first | exact Cor.s39 _ _ | exact Cor.s48 _ _ | exact Cor.s34 _ _ | exact Cor.s35 _ _ | exact Cor.s36 _ _ | exact Cor.s37 _ _) ?_); intro w2 H; simp only [Act.put]) | ((with_reducible refine wpList_layI2 H rfl _ _ _ rfl _ rfl (by decide) _ _ rfl _ (by decide) (by first | exact Cor.s33 _ _ | exact Cor.s40 _ _ | exact Cor.s41 _ _ | exact Cor.s42 _ _ | exact Cor.s43 _ _ | exact Cor.s38 _ _ | exact Cor.s47 _ _ | exact Cor.s44 _ _ | exact Cor.s45 _ _ | exact Cor.s46 _ _) ?_); intro w2 H; simp only [Act.put]) | ((with_reducible refine wpList_layB2 H rfl _ _ _ rfl _ rfl (by decide) _ rfl _ (by decide) (by first | exact Cor.s39 _ _ | exact Cor.s48 _ _ | exact Cor.s34 _ _ | exact Cor.s35 _ _ | exact Cor.s36 _ _ | exact Cor.s37 _ _) ?_); intro w2 H; simp only [Act.put]) | ((with_reducible refine wpList_row0 H rfl _ _ rfl rfl _ rfl ?_); intro w2 H; simp only [Act.put]) | ((with_reducible refine wpList_row1 H rfl _ _ rfl rfl _ rfl ?_); intro w2 H; simp only [Act.put]) | ((with_reducible refine wpList_row2 H rfl _ _ rfl rfl _ rfl ?_); intro w2 H; simp only [Act.put]) | ((with_reducible refine wpList_new H rfl _ _ rfl _ rfl rfl ?_ ?_); (focus rfl); intro w2 H; simp only [Act.put]) | ((with_reducible refine wpList_build_nil rfl rfl ?_); simp only [Act.put, List.setIfInBounds_toArray, List.set_cons_succ, List.set_cons_zero]) | (go_at_call 22; refine (refRight_c _ _).mono ?_; rw [hr]; rintro e w1 ⟨rfl, hb⟩; replace H := H.grow hb; clear hb; dsimp only) | (go_at_call 23; refine (in_128 _ _).mono ?_; rintro e w1 ⟨rfl, hb⟩; replace H := H.grow hb; clear hb; dsimp only))
    refine bodyPost_ret (back_two rfl _ _ _ _ _ _ rfl (H.get (by first | exact List.mem_cons_self | exact List.mem_cons_of_mem _ (List.mem_cons_self) | exact List.mem_cons_of_mem _ (List.mem_cons_of_mem _ (List.mem_cons_self)) | exact List.mem_cons_of_mem _ (List.mem_cons_of_mem _ (List.mem_cons_of_mem _ (List.mem_cons_self))) | exact List.mem_cons_of_mem _ (List.mem_cons_of_mem _ (List.mem_cons_of_mem _ (List.mem_cons_of_mem _ (List.mem_cons_self)))) | exact List.mem_cons_of_mem _ (List.mem_cons_of_mem _ (List.mem_cons_of_mem _ (List.mem_cons_of_mem _ (List.mem_cons_of_mem _ (List.mem_cons_self))))) | exact List.mem_cons_of_mem _ (List.mem_cons_of_mem _ (List.mem_cons_of_mem _ (List.mem_cons_of_mem _ (List.mem_cons_of_mem _ (List.mem_cons_of_mem _ (List.mem_cons_self))))))))) rfl ?_
    exact ⟨rfl, H.below⟩
end Go.Proofs.Ytdlnmjlgfjlmkaa
