/- The bus: New, Out; the law's own addresses and registers. -/
import Derived.Test.YteklkololojamaaGreatBk
import Derived.Test.YteklkololojamaaGreatBh
namespace Go.Proofs.YteklkololojamaaGreat
open Go.RowKit
set_option linter.unusedVariables false
set_option linter.unusedSimpArgs false
set_option maxRecDepth 8000

def newS : Bs := ⟨newP, Tim.zeroT, []⟩
/-- A bus that lies beyond B. -/
structure BK (B : Nat) (w0 : World) (b g t n : Nat) (S : Bs) (Y : BLay) (w : World) : Prop where
  at_ : BusAt b g t n S Y w
  foot : ∀ k, BFoot b g t n Y k → B ≤ k
  below : Below B w0 w
  le : B ≤ w0.heap.size
/-- The same, wherever its blocks lie. -/
def BW (B : Nat) (w0 : World) (b g t n : Nat) (S : Bs) (w : World) : Prop := ∃ Y, BK B w0 b g t n S Y w
section
variable {B : Nat} {w0 : World} {b g t n : Nat} {S S' : Bs} {Y Y' : BLay} {w w' w1 w2 : World}
theorem BK.grow (H : BK B w0 b g t n S Y w) (hb : Below w.heap.size w w') : BK B w0 b g t n S Y w' := ⟨H.at_.grow hb, H.foot, H.below.trans (hb.mono (Nat.le_trans H.le H.below.size)), H.le⟩
theorem BK.bt (H : BK B w0 b g t n S Y w) (h : BT b g t n Y S' w w') : BW B w0 b g t n S' w' := by
  obtain ⟨Z, h1, h2, h3⟩ := h
  exact ⟨Z, h1, fun k hk => (h3 k hk).elim (H.foot k) fun h => Nat.le_trans (Nat.le_trans H.le H.below.size) h, H.below.trans (h2.below (Nat.le_trans H.le H.below.size) H.foot), H.le⟩
theorem BW.grow (H : BW B w0 b g t n S w) (hb : Below w.heap.size w w') : BW B w0 b g t n S w' := by
  obtain ⟨Y, H⟩ := H
  exact ⟨Y, H.grow hb⟩
theorem BW.below (H : BW B w0 b g t n S w) : Below B w0 w := by
  obtain ⟨Y, H⟩ := H
  exact H.below
theorem BusAt.conv (H : BusAt b g t n S Y w) : (convert 60 9 Y.ov).run Tryz.prog w = .ok (.string (strOfNums S.O)) w := by
  rcases H.out with ⟨hl, ⟨e, h0⟩ | ⟨q, cap, cur, e, h1, h2, h3, h4, h5, h6⟩⟩
  · rw [e, run_convert_bytes_nil w 60 5 Tryz.underlying60 Tryz.underlying5 0 0 9 Tryz.underlying9]
    rw [List.length_eq_zero_iff.1 h0]; rfl
  · rw [e]
    refine run_convert_bytes_arg w 60 5 Tryz.underlying60 Tryz.underlying5 q 0 _ cap S.O rfl (fun i hi => ?_) 9 Tryz.underlying9
    rw [cell_of_row _ _ _ _ _ _ h2, Nat.zero_add]
    have e1 : (cur.toList.take (S.O.length * 1))[i]? = (S.O.map vB)[i]? := by rw [h6]
    rw [List.getElem?_take_of_lt (by omega), List.getElem?_map, List.getElem?_eq_getElem hi] at e1
    rw [← Array.getElem?_toList, e1]
    simp [List.getD, List.getElem?_eq_getElem hi]
theorem bout_c (H : BusAt b g t n S Y w) : Calls Tryz.prog 33 #[ptr b 0] w fun e w' => e = .returned (.string (strOfNums S.O)) ∧ w' = w := by
  have c3 := H.c3
  have kc := H.conv
  clear H
  go_enter Tryz.func33, Tryz.ntmps33
  go_wp2
  go_ret
  exact ⟨rfl, rfl⟩
theorem bnew_no (n : Int) (h : n < 1 ∨ 8 < n) (w : World) : Calls Tryz.prog 9 #[vI n] w fun e w' => e = .returned (.tuple #[.pointer none, vI 1]) ∧ w' = w := by
  have hcall := new_no n h w
  go_enter Tryz.func9, Tryz.ntmps9
  go_wp2_with (first | (go_at_call 38; refine hcall.mono ?_; rintro e w' ⟨rfl, rfl⟩; dsimp only))
  go_ret2
  exact ⟨rfl, rfl⟩
theorem bnew_c (n : Nat) (h1 : 1 ≤ n) (h8 : n ≤ 8) (w : World) : Calls Tryz.prog 9 #[vI n] w fun e w' => ∃ b, e = .returned (.tuple #[ptr b 0, vI 0]) ∧ ∃ g t, BW w.heap.size w b g t n newS w' := by
  have hg := new_c n h1 h8 w
  have ht := Tmr.new_c n h1 h8
  go_enter Tryz.func9, Tryz.ntmps9
  go_upto_region 4 with (first | (go_at_call 38; refine hg.mono ?_; rintro e w1 ⟨g, rfl, G1, B1, hge⟩; dsimp only))
  clear hg
  go_upto_region 7 with (first | (go_at_call 39; refine (ht w1).mono ?_; rintro e w2 ⟨t, rfl, tb, T1, B2, hte, htb⟩; dsimp only))
  clear ht
  obtain ⟨L, G1, GF⟩ := G1
  have G2 := G1.grow B2
  have B3 := below_then B1 (Nat.le_refl _) B2
  have hs : w.heap.size ≤ w1.heap.size := B1.size
  go_wp2_with (first | (with_reducible refine wpList_built rfl 74 _ rfl #[vI n, ptr g 0, ptr t 0, .slice none 0 0] (by kernel_rfl) ?_; simp only [Act.put, List.setIfInBounds_toArray, List.set_cons_succ, List.set_cons_zero]))
  go_ret2
  have B4 := below_alloc w2 (.cells #[vI n, ptr g 0, ptr t 0, .slice none 0 0] 74)
  refine ⟨w2.heap.size, rfl, g, t, ⟨L, tb, .slice none 0 0⟩, ⟨heap_alloc_new _ _, G2.grow B4, T1.grow B4, ⟨rfl, .inl ⟨rfl, rfl⟩⟩, fun x hx => (by cases hx), by decide⟩, ?_, below_then B3 (Nat.le_refl _) B4, Nat.le_refl _⟩
  rintro k (rfl | h | h | h)
  · exact B3.size
  · exact GF k h
  · rcases h with rfl | rfl
    · exact Nat.le_trans hs hte
    · exact Nat.le_trans hs htb
  · cases h
end
def pickV (c : Int) (n : Nat) : Nat := (if c < 0 then -(c + 1) else c).toNat % n
theorem pick_lt {c : Int} {n : Nat} (h : 0 < n) : pickV c n < n := Nat.mod_lt _ h
def I64 (x : Int) : Prop := -9223372036854775808 ≤ x ∧ x < 9223372036854775808
theorem pick_c (c : Int) (n : Nat) (h0 : 0 < n) (hn : n < 1000) (hc : I64 c) (w : World) : Calls Tryz.prog 35 #[vI c, vI n] w fun e w' => e = .returned (vI (pickV c n)) ∧ w' = w := by
  obtain ⟨hc1, hc2⟩ := hc
  have hn0 : ¬ ((n : Int) = 0) := by omega
  by_cases h : c < 0
  · have e : ((pickV c n : Nat) : Int) = -((c + 1).tmod (n : Int)) := by
      rw [pickV, if_pos h, Int.natCast_emod, Int.toNat_of_nonneg (by omega), ← Int.neg_tmod, Int.tmod_eq_emod_of_nonneg (by omega)]
    rw [e]
    go_enter Tryz.func35, Tryz.ntmps35
    go_wp2
    go_ret
    exact ⟨rfl, rfl⟩
  · have e : ((pickV c n : Nat) : Int) = c % (n : Int) := by
      rw [pickV, if_neg h, Int.natCast_emod, Int.toNat_of_nonneg (by omega)]
    rw [e]
    go_enter Tryz.func35, Tryz.ntmps35
    go_wp2
    go_ret
    exact ⟨rfl, rfl⟩
/-- The law's own addresses and registers. -/
def addrK (k : Nat) (m : Int) : Int := if k < 8 then 134217728 + 8 * (k : Int) else if k < 80 then 134218240 + 8 * ((k : Int) - 8) else if k < 120 then 134218752 + 8 * ((k : Int) - 80) else if k < 130 then 150994944 + 8 * ((k : Int) - 120) else if k < 140 then 134217728 + 4 * ((k : Int) - 130) else m % 18446744073709551616
def addrV (m : Int) : Int := addrK (pickV m 200) m
theorem addr_c (m : Int) (hm : I64 m) (w : World) : Calls Tryz.prog 11 #[vI m] w fun e w' => e = .returned (vU (addrV m)) ∧ w' = w := by
  have hp := pick_c m 200 (by decide) (by decide) hm w
  have hk : pickV m 200 < 200 := pick_lt (by decide)
  unfold addrV
  generalize pickV m 200 = k at *
  replace hp : Calls Tryz.prog 35 #[vI m, vI 200] w fun e w' => e = .returned (vI k) ∧ w' = w := hp
  clear hm
  unfold addrK
  by_cases h0 : k < 8
  · rw [if_pos h0]
    have i0 : (k : Int) < 8 := by omega
    have e1 : wrap64 ((8 : Int) * (k : Int)) = (8 : Int) * (k : Int) := IntWalk.wrap64_in _ ⟨by omega, by omega⟩
    have e2 : IntKind.u64.wrap ((8 : Int) * (k : Int)) = (8 : Int) * (k : Int) := by rw [IntKind.wrap_u64]; omega
    have e3 : IntKind.u64.wrap (134217728 + (8 : Int) * (k : Int)) = 134217728 + (8 : Int) * (k : Int) := by rw [IntKind.wrap_u64]; omega
    clear hk h0
    go_enter Tryz.func11, Tryz.ntmps11
    go_wp2_with (first | (go_at_call 35; refine hp.mono ?_; rintro e w' ⟨rfl, rfl⟩; dsimp only))
    go_ret
    exact ⟨rfl, rfl⟩
  · rw [if_neg h0]
    by_cases h1 : k < 80
    · rw [if_pos h1]
      have i0 : ¬ (k : Int) < 8 := by omega
      have i1 : (k : Int) < 80 := by omega
      have e0 : wrap64 ((k : Int) - 8) = (k : Int) - 8 := IntWalk.wrap64_in _ ⟨by omega, by omega⟩
      have e1 : wrap64 ((8 : Int) * ((k : Int) - 8)) = (8 : Int) * ((k : Int) - 8) := IntWalk.wrap64_in _ ⟨by omega, by omega⟩
      have e2 : IntKind.u64.wrap ((8 : Int) * ((k : Int) - 8)) = (8 : Int) * ((k : Int) - 8) := by rw [IntKind.wrap_u64]; omega
      have e3 : IntKind.u64.wrap (134218240 + (8 : Int) * ((k : Int) - 8)) = 134218240 + (8 : Int) * ((k : Int) - 8) := by rw [IntKind.wrap_u64]; omega
      clear hk h0 h1
      go_enter Tryz.func11, Tryz.ntmps11
      go_wp2_with (first | (go_at_call 35; refine hp.mono ?_; rintro e w' ⟨rfl, rfl⟩; dsimp only))
      go_ret
      exact ⟨rfl, rfl⟩
    · rw [if_neg h1]
      by_cases h2 : k < 120
      · rw [if_pos h2]
        have i0 : ¬ (k : Int) < 8 := by omega
        have i1 : ¬ (k : Int) < 80 := by omega
        have i2 : (k : Int) < 120 := by omega
        have e0 : wrap64 ((k : Int) - 80) = (k : Int) - 80 := IntWalk.wrap64_in _ ⟨by omega, by omega⟩
        have e1 : wrap64 ((8 : Int) * ((k : Int) - 80)) = (8 : Int) * ((k : Int) - 80) := IntWalk.wrap64_in _ ⟨by omega, by omega⟩
        have e2 : IntKind.u64.wrap ((8 : Int) * ((k : Int) - 80)) = (8 : Int) * ((k : Int) - 80) := by rw [IntKind.wrap_u64]; omega
        have e3 : IntKind.u64.wrap (134218752 + (8 : Int) * ((k : Int) - 80)) = 134218752 + (8 : Int) * ((k : Int) - 80) := by rw [IntKind.wrap_u64]; omega
        clear hk h0 h1 h2
        go_enter Tryz.func11, Tryz.ntmps11
        go_wp2_with (first | (go_at_call 35; refine hp.mono ?_; rintro e w' ⟨rfl, rfl⟩; dsimp only))
        go_ret
        exact ⟨rfl, rfl⟩
      · rw [if_neg h2]
        by_cases h3 : k < 130
        · rw [if_pos h3]
          have i0 : ¬ (k : Int) < 8 := by omega
          have i1 : ¬ (k : Int) < 80 := by omega
          have i2 : ¬ (k : Int) < 120 := by omega
          have i3 : (k : Int) < 130 := by omega
          have e0 : wrap64 ((k : Int) - 120) = (k : Int) - 120 := IntWalk.wrap64_in _ ⟨by omega, by omega⟩
          have e1 : wrap64 ((8 : Int) * ((k : Int) - 120)) = (8 : Int) * ((k : Int) - 120) := IntWalk.wrap64_in _ ⟨by omega, by omega⟩
          have e2 : IntKind.u64.wrap ((8 : Int) * ((k : Int) - 120)) = (8 : Int) * ((k : Int) - 120) := by rw [IntKind.wrap_u64]; omega
          have e3 : IntKind.u64.wrap (150994944 + (8 : Int) * ((k : Int) - 120)) = 150994944 + (8 : Int) * ((k : Int) - 120) := by rw [IntKind.wrap_u64]; omega
          clear hk h0 h1 h2 h3
          go_enter Tryz.func11, Tryz.ntmps11
          go_wp2_with (first | (go_at_call 35; refine hp.mono ?_; rintro e w' ⟨rfl, rfl⟩; dsimp only))
          go_ret
          exact ⟨rfl, rfl⟩
        · rw [if_neg h3]
          by_cases h4 : k < 140
          · rw [if_pos h4]
            have i0 : ¬ (k : Int) < 8 := by omega
            have i1 : ¬ (k : Int) < 80 := by omega
            have i2 : ¬ (k : Int) < 120 := by omega
            have i3 : ¬ (k : Int) < 130 := by omega
            have i4 : (k : Int) < 140 := by omega
            have e0 : wrap64 ((k : Int) - 130) = (k : Int) - 130 := IntWalk.wrap64_in _ ⟨by omega, by omega⟩
            have e1 : wrap64 ((4 : Int) * ((k : Int) - 130)) = (4 : Int) * ((k : Int) - 130) := IntWalk.wrap64_in _ ⟨by omega, by omega⟩
            have e2 : IntKind.u64.wrap ((4 : Int) * ((k : Int) - 130)) = (4 : Int) * ((k : Int) - 130) := by rw [IntKind.wrap_u64]; omega
            have e3 : IntKind.u64.wrap (134217728 + (4 : Int) * ((k : Int) - 130)) = 134217728 + (4 : Int) * ((k : Int) - 130) := by rw [IntKind.wrap_u64]; omega
            clear hk h0 h1 h2 h3 h4
            go_enter Tryz.func11, Tryz.ntmps11
            go_wp2_with (first | (go_at_call 35; refine hp.mono ?_; rintro e w' ⟨rfl, rfl⟩; dsimp only))
            go_ret
            exact ⟨rfl, rfl⟩
          · rw [if_neg h4]
            have i0 : ¬ (k : Int) < 8 := by omega
            have i1 : ¬ (k : Int) < 80 := by omega
            have i2 : ¬ (k : Int) < 120 := by omega
            have i3 : ¬ (k : Int) < 130 := by omega
            have i4 : ¬ (k : Int) < 140 := by omega
            have e1 : IntKind.u64.wrap m = m % 18446744073709551616 := by rw [IntKind.wrap_u64]
            clear hk h0 h1 h2 h3 h4
            go_enter Tryz.func11, Tryz.ntmps11
            go_wp2_with (first | (go_at_call 35; refine hp.mono ?_; rintro e w' ⟨rfl, rfl⟩; dsimp only))
            go_ret
            exact ⟨rfl, rfl⟩

def sysL (m : Int) : List Int := [18016, 18017, 16944, 18013, 24322, 24345, 24346, 17920, m]
def sysV (m : Int) : Int := (sysL m).getD (pickV m 9) 0
set_option maxHeartbeats 4000000 in
theorem sys_c (m : Int) (hm : I64 m) (w : World) : Calls Tryz.prog 12 #[vI m] w fun e w' => e = .returned (vI (sysV m)) ∧ Below w.heap.size w w' := by
  have hp := pick_c m 9 (by decide) (by decide) hm
  have hk : pickV m 9 < 9 := pick_lt (by decide)
  unfold sysV
  generalize pickV m 9 = k at *
  replace hp : ∀ w, Calls Tryz.prog 35 #[vI m, vI 9] w fun e w' => e = .returned (vI k) ∧ w' = w := hp
  clear hm
  rcases (by omega : k = 0 ∨ k = 1 ∨ k = 2 ∨ k = 3 ∨ k = 4 ∨ k = 5 ∨ k = 6 ∨ k = 7 ∨ k = 8) with rfl | rfl | rfl | rfl | rfl | rfl | rfl | rfl | rfl
  all_goals
    go_enter Tryz.func12, Tryz.ntmps12
    go_wp2_with (first | (go_at_call 35; refine (hp _).mono ?_; rintro e w' ⟨rfl, rfl⟩; dsimp only))
    go_ret
    exact ⟨rfl, below_alloc _ _⟩
end Go.Proofs.YteklkololojamaaGreat
