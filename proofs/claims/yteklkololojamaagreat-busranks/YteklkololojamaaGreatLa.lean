/- What is set by bits is told by bits: the walk. -/
import Derived.Test.YteklkololojamaaGreatBo
import Derived.Test.YteklkololojamaaGreatBn
namespace Go.Proofs.YteklkololojamaaGreat
open Go.RowKit
set_option linter.unusedVariables false
set_option linter.unusedSimpArgs false
set_option maxRecDepth 8000

theorem bb_z {v : Nat} : v / 2 ^ 32 * 2 ^ 32 ≤ v := Nat.div_mul_le_self _ _
set_option maxHeartbeats 4000000 in
theorem bits_walk (core : Int) (on off la cl : Nat) (W : World) (hI : I64 core) (h1 : on < 2 ^ 64) (h2 : off < 2 ^ 64) (h3 : la < 2 ^ 64) (h4 : cl < 2 ^ 64) : Calls Tryz.prog 7 #[vI core, vU on, vU off, vU la, vU cl] W fun e w' => e = .returned (.bool true) ∧ Below W.heap.size W w' := by
  have hc : pickV core 3 < 3 := pick_lt (by decide)
  have hpick : ∀ w, Calls Tryz.prog 35 #[vI core, vI 3] w fun e w' => e = .returned (vI (pickV core 3)) ∧ w' = w := pick_c core 3 (by decide) (by decide) hI
  generalize pickV core 3 = c at *
  have e1 := andNot_bit h1 h2
  have e2 := andNot_bit h3 h4
  have hwon : ∀ {b g t : Nat} {Y : BLay} {w : World}, BusAt b g t 3 (newS) Y w → Calls Tryz.prog 16 #[ptr b 0, vI c, vU 134217728, vU on] w fun e w' => e = .returned (vI 0) ∧ BT b g t 3 Y (bb1 c on) w w' := fun {b g t Y w} H => by
    have := bwrite_c H c 134217728 on h1
    rw [(brd_at (S := newS) hc find0).2] at this
    exact this
  have hwoff : ∀ {b g t : Nat} {Y : BLay} {w : World}, BusAt b g t 3 (bb1 c on) Y w → Calls Tryz.prog 16 #[ptr b 0, vI c, vU 134217736, vU off] w fun e w' => e = .returned (vI 0) ∧ BT b g t 3 Y (bb2 c on off) w w' := fun {b g t Y w} H => by
    have := bwrite_c H c 134217736 off h2
    rw [(brd_at (S := newS) hc find1).2] at this
    exact this
  have hwla : ∀ {b g t : Nat} {Y : BLay} {w : World}, BusAt b g t 3 (bb2 c on off) Y w → Calls Tryz.prog 16 #[ptr b 0, vI c, vU 134217744, vU la] w fun e w' => e = .returned (vI 0) ∧ BT b g t 3 Y (bb3 c on off la) w w' := fun {b g t Y w} H => by
    have := bwrite_c H c 134217744 la h3
    rw [(brd_at (S := newS) hc find2).2] at this
    exact this
  have hwcl : ∀ {b g t : Nat} {Y : BLay} {w : World}, BusAt b g t 3 (bb3 c on off la) Y w → Calls Tryz.prog 16 #[ptr b 0, vI c, vU 134217752, vU cl] w fun e w' => e = .returned (vI 0) ∧ BT b g t 3 Y (bb4 c on off la cl) w w' := fun {b g t Y w} H => by
    have := bwrite_c H c 134217752 cl h4
    rw [(brd_at (S := newS) hc find3).2] at this
    exact this
  obtain ⟨d, hdd, hd, hdc⟩ : ∃ d : Nat, ((c : Int) + 1).tmod 3 = d ∧ d < 3 ∧ d ≠ c := by
    refine ⟨(c + 1) % 3, ?_, Nat.mod_lt _ (by decide), by omega⟩
    rw [Int.tmod_eq_emod_of_nonneg (by omega)]; omega
  have hr0 : ∀ {b g t : Nat} {Y : BLay} {w : World}, BusAt b g t 3 (bb4 c on off la cl) Y w → Calls Tryz.prog 13 #[ptr b 0, vI c, vU 134217728] w fun e w' => e = .returned (.tuple #[vU ((Bit.less on off : Nat) : Int), vI 0]) ∧ Below w.heap.size w w' := fun {b g t Y w} H => by
    have := bread_c H c 134217728
    rw [(brd_at hc find0).1, (brd_at (S := newS) hc find0).2] at this
    rw [← bb_en hc (c := c) (on := on) (off := off) (la := la) (cl := cl)]
    exact this
  have hr1 : ∀ {b g t : Nat} {Y : BLay} {w : World}, BusAt b g t 3 (bb4 c on off la cl) Y w → Calls Tryz.prog 13 #[ptr b 0, vI c, vU 134217736] w fun e w' => e = .returned (.tuple #[vU ((Bit.less on off : Nat) : Int), vI 0]) ∧ Below w.heap.size w w' := fun {b g t Y w} H => by
    have := bread_c H c 134217736
    rw [(brd_at hc find1).1, (brd_at (S := newS) hc find1).2] at this
    rw [← bb_en hc (c := c) (on := on) (off := off) (la := la) (cl := cl)]
    exact this
  have hr2 : ∀ {b g t : Nat} {Y : BLay} {w : World}, BusAt b g t 3 (bb4 c on off la cl) Y w → Calls Tryz.prog 13 #[ptr b 0, vI c, vU 134217744] w fun e w' => e = .returned (.tuple #[vU ((Bit.less la cl : Nat) : Int), vI 0]) ∧ Below w.heap.size w w' := fun {b g t Y w} H => by
    have := bread_c H c 134217744
    rw [(brd_at hc find2).1, (brd_at (S := newS) hc find2).2] at this
    rw [← bb_pe hc (c := c) (on := on) (off := off) (la := la) (cl := cl)]
    exact this
  have hr3 : ∀ {b g t : Nat} {Y : BLay} {w : World}, BusAt b g t 3 (bb4 c on off la cl) Y w → Calls Tryz.prog 13 #[ptr b 0, vI c, vU 134217752] w fun e w' => e = .returned (.tuple #[vU ((Bit.less la cl : Nat) : Int), vI 0]) ∧ Below w.heap.size w w' := fun {b g t Y w} H => by
    have := bread_c H c 134217752
    rw [(brd_at hc find3).1, (brd_at (S := newS) hc find3).2] at this
    rw [← bb_pe hc (c := c) (on := on) (off := off) (la := la) (cl := cl)]
    exact this
  have hr4 : ∀ {b g t : Nat} {Y : BLay} {w : World}, BusAt b g t 3 (bb4 c on off la cl) Y w → Calls Tryz.prog 13 #[ptr b 0, vI d, vU 134217728] w fun e w' => e = .returned (.tuple #[vU ((Bit.less on off / 2 ^ 32 * 2 ^ 32 : Nat) : Int), vI 0]) ∧ Below w.heap.size w w' := fun {b g t Y w} H => by
    have := bread_c H d 134217728
    rw [(brd_at hd find0).1, (brd_at (S := newS) hd find0).2] at this
    rw [← bb_up hc hd hdc (c := c) (on := on) (off := off) (la := la) (cl := cl)]
    exact this
  have hl1 : Bit.less on off < 2 ^ 64 := Bit.orN_lt _ _
  have hsh : IntKind.u64.wrap (((Bit.less on off : Nat) : Int) / 4294967296 * 4294967296) = ((Bit.less on off / 2 ^ 32 * 2 ^ 32 : Nat) : Int) := by
    rw [IntKind.wrap_u64]
    omega
  generalize ((Bit.less on off / 2 ^ 32 * 2 ^ 32 : Nat) : Int) = up at *
  generalize ((Bit.less on off : Nat) : Int) = lo at *
  generalize ((Bit.less la cl : Nat) : Int) = ll at *
  have hci : (c : Int) + 1 < 9223372036854775808 := by omega
  have hw1 : wrap64 ((c : Int) + 1) = (c : Int) + 1 := IntWalk.wrap64_in _ ⟨by omega, by omega⟩
  clear hl1 hc hI hdc hd h1 h2 h3 h4 hci
  generalize (on : Int) = ion at *
  generalize (off : Int) = ioff at *
  generalize (la : Int) = ila at *
  generalize (cl : Int) = icl at *
  have hnew : ∀ w : World, Calls Tryz.prog 9 #[vI 3] w fun e w' => ∃ b, e = .returned (.tuple #[ptr b 0, vI 0]) ∧ ∃ g t, BW w.heap.size w b g t 3 newS w' := bnew_c 3 (by decide) (by decide)
  go_enter Tryz.func7, Tryz.ntmps7
  go_upto_region 5 with (first | (go_at_call 8; refine (known_c _).mono ?_; rintro e wk ⟨rfl, HK⟩; dsimp only) | (go_at_call 9; refine (hnew wk).mono ?_; rintro e w1 ⟨b, rfl, g, t, Y, K⟩; dsimp only))
  clear hnew
  replace K : BK W.heap.size W b g t 3 newS Y w1 := ⟨K.at_, fun k hk => Nat.le_trans HK.size (K.foot k hk), below_then HK (Nat.le_refl _) K.below, Nat.le_refl _⟩
  clear HK
  go_upto_region 7 with (first | (go_at_call 35; refine (hpick _).mono ?_; rintro e w' ⟨rfl, rfl⟩; dsimp only))
  go_upto_region 8 with (first | (go_at_call 16; refine (hwcl K3.at_).mono ?_; rintro e w2 ⟨rfl, hT⟩; dsimp only; obtain ⟨Y4, K4⟩ := K3.bt hT; clear hT K3) | (go_at_call 16; refine (hwla K2.at_).mono ?_; rintro e w2 ⟨rfl, hT⟩; dsimp only; obtain ⟨Y3, K3⟩ := K2.bt hT; clear hT K2) | (go_at_call 16; refine (hwoff K1.at_).mono ?_; rintro e w2 ⟨rfl, hT⟩; dsimp only; obtain ⟨Y2, K2⟩ := K1.bt hT; clear hT K1) | (go_at_call 16; refine (hwon K.at_).mono ?_; rintro e w2 ⟨rfl, hT⟩; dsimp only; obtain ⟨Y1, K1⟩ := K.bt hT; clear hT K))
  go_upto_region 9 with (first | (go_at_call 13; refine (hr0 K4.at_).mono ?_; rintro e w3 ⟨rfl, hB⟩; dsimp only))
  replace K4 := K4.grow hB
  clear hB
  go_upto_region 10 with (first | (go_at_call 13; refine (hr1 K4.at_).mono ?_; rintro e w3 ⟨rfl, hB⟩; dsimp only))
  replace K4 := K4.grow hB
  clear hB
  go_upto_region 11 with (first | (go_at_call 13; refine (hr2 K4.at_).mono ?_; rintro e w3 ⟨rfl, hB⟩; dsimp only))
  replace K4 := K4.grow hB
  clear hB
  go_upto_region 12 with (first | (go_at_call 13; refine (hr3 K4.at_).mono ?_; rintro e w3 ⟨rfl, hB⟩; dsimp only))
  replace K4 := K4.grow hB
  clear hB
  go_upto_region 13 with (first | (go_at_call 13; refine (hr4 K4.at_).mono ?_; rintro e w3 ⟨rfl, hB⟩; dsimp only))
  replace K4 := K4.grow hB
  clear hB
  go_wp2
  go_ret
  exact ⟨rfl, K4.below⟩
theorem nat_of {x : Int} (h : U64 x) : ∃ v : Nat, x = v ∧ v < 2 ^ 64 := ⟨x.toNat, by have := h.1; omega, by have := h.2; omega⟩
theorem bits_all (core on off la cl : Int) (W : World) (hI : I64 core) (h1 : U64 on) (h2 : U64 off) (h3 : U64 la) (h4 : U64 cl) : Calls Tryz.prog 7 #[vI core, vU on, vU off, vU la, vU cl] W fun e w' => e = .returned (.bool true) ∧ Below W.heap.size W w' := by
  obtain ⟨a, rfl, k1⟩ := nat_of h1
  obtain ⟨b, rfl, k2⟩ := nat_of h2
  obtain ⟨c, rfl, k3⟩ := nat_of h3
  obtain ⟨d, rfl, k4⟩ := nat_of h4
  exact bits_walk core a b c d W hI k1 k2 k3 k4
end Go.Proofs.YteklkololojamaaGreat
