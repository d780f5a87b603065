/- What Add of package alu and of the document's own answer give back: contracts, for all numbers. -/
import Derived.Test.YtakmnbahogogiaaSums
import Derived.Deep.LoopGhost
namespace Go.Proofs.Ytakmnbahogogiaa
open Go.RowKit

theorem add64 (x y : Int) (c : Bool) (hx : 0 ≤ x) (hy : 0 ≤ y) (w : World) :
    (callFunc 24 #[.int .u64 x, .int .u64 y, .int .u64 (oneI c)]).run Try.prog w =
      .ok (.value (.tuple #[.int .u64 ((x + y + oneI c) % 18446744073709551616), .int .u64 ((x + y + oneI c) / 18446744073709551616)])) w := by
  have h0 : 0 ≤ oneI c := by cases c <;> decide
  have h1 : oneI c ≤ 1 := by cases c <;> decide
  rw [run_callFunc_extern Try.func24 (by kernel_rfl) (by kernel_rfl) (by kernel_rfl) (e := add64Entry) (by kernel_rfl), run_add64 x y _ hx hy h0 h1]
  rfl
theorem ret_flg {a b : Int} {f g : Flg} (h : a = b) (h' : f = g) : Ending.returned (.tuple #[.int .u64 a, f.val]) = .returned (.tuple #[.int .u64 b, g.val]) := by rw [h, h']
set_option maxHeartbeats 1000000 in
theorem Add_c (a b : Int) (c : Bool) (ha : Hid (U64 a)) (hb : Hid (U64 b)) (w : World) :
    Calls Try.prog 12 #[.int .u64 a, .int .u64 b, .bool c] w fun e w' => e = .returned (.tuple #[.int .u64 (sumV a b c), (addF a b c).val]) ∧ Below w.heap.size w w' := by
  have ha1 := ha.out.1
  have hb1 := hb.out.1
  go_enter Try.func12, Try.ntmps12
  go_upto_region 1 with fail
  have H := (has_none w).new 31 #[.bool false, .bool false, .bool false, .bool false]
  generalize hg : w.heap.size = g at H ⊢
  generalize w.alloc (.cells #[.bool false, .bool false, .bool false, .bool false] 31) = w1 at H ⊢
  go_upto_region 2 with (first | (go_at_call 25; refine (oneIf_c _ _).mono ?_; rintro e w' ⟨rfl, rfl⟩) | (simp only [add64 _ _ _ ha1 hb1]))
  go_wp2_with (first | (go_at_call 26; refine (isBelow0_c _ _).mono ?_; rintro e w' ⟨rfl, rfl⟩) | ((with_reducible refine wpList_over31 rfl H (fun _ h => absurd h List.not_mem_nil) _ _ rfl _ _ _ _ rfl rfl ?_); intro w2 H; try simp only [Act.put]))
  have hw := addF_walk (c := c) ha.out hb.out
  have hh := H.get List.mem_cons_self
  have hB := H.below
  clear H
  have hh' : w2.heap[g]? = some (.cells (addF a b c).cells 31) := by rw [hh, ← hw]
  clear hh hw
  exact bodyPost_ret (back_flg (ty := 31) (Or.inl rfl) (p := 7) (u := 6) (by kernel_rfl) _ _ g (addF a b c) (by rfl) hh') rfl ⟨by rfl, hB⟩
set_option maxHeartbeats 2000000 in
theorem refAdd_c (a b : Int) (c : Bool) (ha : Hid (U64 a)) (hb : Hid (U64 b)) (w : World) :
    Calls Try.prog 13 #[.int .u64 a, .int .u64 b, .bool c] w fun e w' => e = .returned (.tuple #[.int .u64 (sumV a b c), (addF a b c).val]) ∧ Below w.heap.size w w' := by
  have ha1 := ha.out.1
  have hb1 := hb.out.1
  go_enter Try.func13, Try.ntmps13
  go_upto_region 1 with fail
  have H := (has_none w).new 34 #[.bool false, .bool false, .bool false, .bool false]
  generalize hg : w.heap.size = g at H ⊢
  generalize w.alloc (.cells #[.bool false, .bool false, .bool false, .bool false] 34) = w1 at H ⊢
  cases c
  · go_wp2
    go_loopg [8, 9, 10, 11] 64 (fun gk s8 s9 s10 s11 wx => ∃ k : Nat, k + gk = 64 ∧ s8 = .int .u64 (lowS a b false k) ∧ s9 = .int .u64 (carS a b false k) ∧ s10 = .int .u64 (lastS a b false k) ∧ s11 = .int .i64 k ∧ Hid (Has w [(g, #[.bool false, .bool false, .bool false, .bool false], 34)] wx))
    case atStart =>
      have hst := start_s a b false
      exact ⟨0, rfl, by rw [hst.1], by rw [hst.2]; rfl, rfl, rfl, H⟩
    case round =>
      obtain ⟨k, hkg, rfl, rfl, rfl, rfl, hH⟩ := hrel
      clear H
      by_cases hlt : (k : Int) < 64
      · go_wp2
        go_quiet (fail)
        go_wp2
        go_roundg (gk - 1)
        case rel =>
          refine ⟨k + 1, by omega, ?_, ?_, rfl, by go_num, hH.out.grow (below_drewN (Below.refl _ _))⟩
          · rw [out_walk _ (by omega) ha1 hb1]
          · rw [car_walk _ ha1 hb1]
        case measure => omega
      · obtain rfl : k = 64 := by omega
        have H := hH.out
        go_wp2_with ((with_reducible refine wpList_over34 rfl H (fun _ h => absurd h List.not_mem_nil) _ _ rfl _ _ _ _ rfl rfl ?_); intro w2 H; try simp only [Act.put])
        have hw := add_end (c := false) ha.out hb.out
        have hh := H.get List.mem_cons_self
        have hB := H.below
        clear H
        have hh' : w2.heap[g]? = some (.cells (addF a b false).cells 34) := by rw [hh, ← hw.2]
        clear hh
        exact bodyPost_ret (back_flg (ty := 34) (Or.inr rfl) (p := 7) (u := 6) (by kernel_rfl) _ _ g (addF a b false) (by rfl) hh') rfl ⟨ret_flg hw.1 rfl, by rw [← hg]; exact hB⟩
  · go_wp2
    go_loopg [8, 9, 10, 11] 64 (fun gk s8 s9 s10 s11 wx => ∃ k : Nat, k + gk = 64 ∧ s8 = .int .u64 (lowS a b true k) ∧ s9 = .int .u64 (carS a b true k) ∧ s10 = .int .u64 (lastS a b true k) ∧ s11 = .int .i64 k ∧ Hid (Has w [(g, #[.bool false, .bool false, .bool false, .bool false], 34)] wx))
    case atStart =>
      have hst := start_s a b true
      exact ⟨0, rfl, by rw [hst.1], by rw [hst.2]; rfl, rfl, rfl, H⟩
    case round =>
      obtain ⟨k, hkg, rfl, rfl, rfl, rfl, hH⟩ := hrel
      clear H
      by_cases hlt : (k : Int) < 64
      · go_wp2
        go_quiet (fail)
        go_wp2
        go_roundg (gk - 1)
        case rel =>
          refine ⟨k + 1, by omega, ?_, ?_, rfl, by go_num, hH.out.grow (below_drewN (Below.refl _ _))⟩
          · rw [out_walk _ (by omega) ha1 hb1]
          · rw [car_walk _ ha1 hb1]
        case measure => omega
      · obtain rfl : k = 64 := by omega
        have H := hH.out
        go_wp2_with ((with_reducible refine wpList_over34 rfl H (fun _ h => absurd h List.not_mem_nil) _ _ rfl _ _ _ _ rfl rfl ?_); intro w2 H; try simp only [Act.put])
        have hw := add_end (c := true) ha.out hb.out
        have hh := H.get List.mem_cons_self
        have hB := H.below
        clear H
        have hh' : w2.heap[g]? = some (.cells (addF a b true).cells 34) := by rw [hh, ← hw.2]
        clear hh
        exact bodyPost_ret (back_flg (ty := 34) (Or.inr rfl) (p := 7) (u := 6) (by kernel_rfl) _ _ g (addF a b true) (by rfl) hh') rfl ⟨ret_flg hw.1 rfl, by rw [← hg]; exact hB⟩
end Go.Proofs.Ytakmnbahogogiaa
