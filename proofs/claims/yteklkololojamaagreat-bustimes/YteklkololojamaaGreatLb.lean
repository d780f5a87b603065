/- A timer that comes: the walk. -/
import Derived.Test.YteklkololojamaaGreatLx
import Derived.Test.YteklkololojamaaGreatLa
namespace Go.Proofs.YteklkololojamaaGreat
open Go.RowKit
set_option linter.unusedVariables false
set_option linter.unusedSimpArgs false
set_option maxRecDepth 8000

set_option maxHeartbeats 4000000 in
theorem times_walk (core : Int) (cv tk : Nat) (W : World) (hI : I64 core) (h1 : cv < 2 ^ 64) (h2 : tk < 2 ^ 64) : Calls Tryz.prog 5 #[vI core, vU cv, vU tk] W fun e w' => e = .returned (.bool true) ∧ Below W.heap.size W w' := by
  have hc : pickV core 3 < 3 := pick_lt (by decide)
  have hpick : ∀ w, Calls Tryz.prog 35 #[vI core, vI 3] w fun e w' => e = .returned (vI (pickV core 3)) ∧ w' = w := pick_c core 3 (by decide) (by decide) hI
  generalize pickV core 3 = c at *
  obtain ⟨d, hdd, hd, hde⟩ : ∃ d : Nat, ((c : Int) + 1).tmod 3 = d ∧ d < 3 ∧ d = (c + 1) % 3 := by
    refine ⟨(c + 1) % 3, ?_, Nat.mod_lt _ (by decide), rfl⟩
    rw [Int.tmod_eq_emod_of_nonneg (by omega)]; omega
  have hw1 : wrap64 ((c : Int) + 1) = (c : Int) + 1 := IntWalk.wrap64_in _ ⟨by omega, by omega⟩
  have k1 : ∀ {b g t : Nat} {Y : BLay} {w : World}, BusAt b g t 3 (newS) Y w → Calls Tryz.prog 20 #[ptr b 0, vI c, vI 0, vI 24346, vU cv] w fun e w' => e = .returned (vI 0) ∧ BT b g t 3 Y (⟨tw1, tT1 c cv, []⟩) w w' := fun {b g t Y w} H => by
    have := bset_c H c 0 24346 cv h1
    rw [st1 hc, (set_at (S := newS) (v := 0) hc reach2 rfl).2] at this
    exact this
  have k2 : ∀ {b g t : Nat} {Y : BLay} {w : World}, BusAt b g t 3 (⟨tw1, tT1 c cv, []⟩) Y w → Calls Tryz.prog 20 #[ptr b 0, vI c, vI 0, vI 24345, vU 1] w fun e w' => e = .returned (vI 0) ∧ BT b g t 3 Y (⟨tw2 c (decide ((cv : Int) ≤ 0)), tT2 c cv, []⟩) w w' := fun {b g t Y w} H => by
    have := bset_c H c 0 24345 1 (by decide)
    rw [st2 hc, (set_at (S := newS) (v := 0) hc reach1 rfl).2] at this
    exact this
  have k3 : ∀ {b g t : Nat} {Y : BLay} {w : World}, BusAt b g t 3 (⟨tw2 c (decide ((cv : Int) ≤ 0)), tT2 c cv, []⟩) Y w → Calls Tryz.prog 16 #[ptr b 0, vI c, vU 134217728, vU 134217728] w fun e w' => e = .returned (vI 0) ∧ BT b g t 3 Y (⟨tw3 c (decide ((cv : Int) ≤ 0)), tT2 c cv, []⟩) w w' := fun {b g t Y w} H => by
    have := bwrite_c H c 134217728 134217728 (by decide)
    rw [st3 hc, (brd_at (S := newS) hc find0).2] at this
    exact this
  have k4 : ∀ {b g t : Nat} {Y : BLay} {w : World}, BusAt b g t 3 (⟨tw3 c (decide ((cv : Int) ≤ 0)), tT2 c cv, []⟩) Y w → Calls Tryz.prog 22 #[ptr b 0, vU tk] w fun e w' => e = .returned (.tuple #[]) ∧ BT b g t 3 Y (⟨tw4 c (decide ((cv : Int) ≤ 0)) (decide ((cv : Int) ≤ tk)), tT4 c cv tk, []⟩) w w' := fun {b g t Y w} H => by
    have := btick_c H tk
    rw [st4 h2] at this
    exact this
  have hge : decide ((cv : Int) ≤ tk) = decide ((tk : Int) ≥ cv) := rfl
  generalize hbb : decide ((cv : Int) ≤ tk) = bb at *
  generalize decide ((cv : Int) ≤ 0) = a at *
  have k5 : ∀ {b g t : Nat} {Y : BLay} {w : World}, BusAt b g t 3 ⟨tw4 c a bb, tT4 c cv tk, []⟩ Y w → Calls Tryz.prog 17 #[ptr b 0, vI c, vI 1, vI 18016] w fun e w' => e = .returned (.tuple #[vU (if bb then 27 else 1023), vI 0]) ∧ BT b g t 3 Y ⟨tw5 c a bb, tT4 c cv tk, []⟩ w w' := fun {b g t Y w} H => by
    have := bsys_c H c 1 18016 (fun d hd => of_decide_eq_true (ltw4 c d a bb hc hd))
    rw [(sys_at hc reach3 rfl).1, (sys_at (S := newS) hc reach3 rfl).2.1, (sys_at hc reach3 rfl).2.2] at this
    rw [← t4v c a bb hc]
    exact this
  have k6 : ∀ {b g t : Nat} {Y : BLay} {w : World}, BusAt b g t 3 ⟨tw5 c a bb, tT4 c cv tk, []⟩ Y w → Calls Tryz.prog 17 #[ptr b 0, vI (((c + 1) % 3 : Nat) : Int), vI 1, vI 18016] w fun e w' => e = .returned (.tuple #[vU (1023), vI 0]) ∧ BT b g t 3 Y ⟨tw6 c a bb, tT4 c cv tk, []⟩ w w' := fun {b g t Y w} H => by
    have := bsys_c H (((c + 1) % 3 : Nat) : Int) 1 18016 (fun d hd => of_decide_eq_true (ltw5 c d a bb hc hd))
    rw [(sys_at (Nat.mod_lt _ (by decide)) reach3 rfl).1, (sys_at (S := newS) (Nat.mod_lt _ (by decide)) reach3 rfl).2.1, (sys_at (Nat.mod_lt _ (by decide)) reach3 rfl).2.2] at this
    rw [← t5v c a bb hc]
    exact this
  rw [← hde] at k6
  clear hde hd hI h1 h2
  have k7 : ∀ {b g t : Nat} {Y : BLay} {w : World}, BusAt b g t 3 ⟨tw6 c a bb, tT4 c cv tk, []⟩ Y w → Calls Tryz.prog 17 #[ptr b 0, vI c, vI 1, vI 18016] w fun e w' => e = .returned (.tuple #[vU (1023), vI 0]) ∧ BT b g t 3 Y ⟨tw7 c a bb, tT4 c cv tk, []⟩ w w' := fun {b g t Y w} H => by
    have := bsys_c H c 1 18016 (fun d hd => of_decide_eq_true (ltw6 c d a bb hc hd))
    rw [(sys_at hc reach3 rfl).1, (sys_at (S := newS) hc reach3 rfl).2.1, (sys_at hc reach3 rfl).2.2] at this
    rw [← t6v c a bb hc]
    exact this
  have k8 : ∀ {b g t : Nat} {Y : BLay} {w : World}, BusAt b g t 3 ⟨tw7 c a bb, tT4 c cv tk, []⟩ Y w → Calls Tryz.prog 20 #[ptr b 0, vI c, vI 1, vI 18017, vU 27] w fun e w' => e = .returned (vI 0) ∧ BT b g t 3 Y ⟨tw8 c a bb, tT4 c cv tk, []⟩ w w' := fun {b g t Y w} H => by
    have := bset_c H c 1 18017 27 (by decide)
    rw [(set_at hc reach5 rfl).1, (set_at (S := newS) (v := 0) hc reach5 rfl).2] at this
    exact this
  have k9 : ∀ {b g t : Nat} {Y : BLay} {w : World}, BusAt b g t 3 ⟨tw8 c a bb, tT4 c cv tk, []⟩ Y w → Calls Tryz.prog 17 #[ptr b 0, vI c, vI 1, vI 18016] w fun e w' => e = .returned (.tuple #[vU (if bb then 27 else 1023), vI 0]) ∧ BT b g t 3 Y ⟨tw9 c a bb, tT4 c cv tk, []⟩ w w' := fun {b g t Y w} H => by
    have := bsys_c H c 1 18016 (fun d hd => of_decide_eq_true (ltw8 c d a bb hc hd))
    rw [(sys_at hc reach3 rfl).1, (sys_at (S := newS) hc reach3 rfl).2.1, (sys_at hc reach3 rfl).2.2] at this
    rw [← t8v c a bb hc]
    exact this
  have k10 : ∀ {b g t : Nat} {Y : BLay} {w : World}, BusAt b g t 3 ⟨tw9 c a bb, tT4 c cv tk, []⟩ Y w → Calls Tryz.prog 20 #[ptr b 0, vI c, vI 1, vI 18017, vU 27] w fun e w' => e = .returned (vI 0) ∧ BT b g t 3 Y ⟨tw10 c a bb, tT4 c cv tk, []⟩ w w' := fun {b g t Y w} H => by
    have := bset_c H c 1 18017 27 (by decide)
    rw [(set_at hc reach5 rfl).1, (set_at (S := newS) (v := 0) hc reach5 rfl).2] at this
    exact this
  have k11 : ∀ {b g t : Nat} {Y : BLay} {w : World}, BusAt b g t 3 ⟨tw10 c a bb, tT4 c cv tk, []⟩ Y w → Calls Tryz.prog 20 #[ptr b 0, vI c, vI 0, vI 24345, vU 3] w fun e w' => e = .returned (vI 0) ∧ BT b g t 3 Y ⟨tw11 c a bb, tT11 c cv tk, []⟩ w w' := fun {b g t Y w} H => by
    have := bset_c H c 0 24345 3 (by decide)
    rw [st11 hc, (set_at (S := newS) (v := 0) hc reach1 rfl).2] at this
    exact this
  have k12 : ∀ {b g t : Nat} {Y : BLay} {w : World}, BusAt b g t 3 ⟨tw11 c a bb, tT11 c cv tk, []⟩ Y w → Calls Tryz.prog 17 #[ptr b 0, vI c, vI 1, vI 18016] w fun e w' => e = .returned (.tuple #[vU (1023), vI 0]) ∧ BT b g t 3 Y ⟨tw12 c a bb, tT11 c cv tk, []⟩ w w' := fun {b g t Y w} H => by
    have := bsys_c H c 1 18016 (fun d hd => of_decide_eq_true (ltw11 c d a bb hc hd))
    rw [(sys_at hc reach3 rfl).1, (sys_at (S := newS) hc reach3 rfl).2.1, (sys_at hc reach3 rfl).2.2] at this
    rw [← t11v c a bb hc]
    exact this
  have hnew : ∀ w : World, Calls Tryz.prog 9 #[vI 3] w fun e w' => ∃ b, e = .returned (.tuple #[ptr b 0, vI 0]) ∧ ∃ g t, BW w.heap.size w b g t 3 newS w' := bnew_c 3 (by decide) (by decide)
  go_enter Tryz.func5, Tryz.ntmps5
  go_upto_region 5 with (first | (go_at_call 8; refine (known_c _).mono ?_; rintro e wk ⟨rfl, HK⟩; dsimp only) | (go_at_call 9; refine (hnew wk).mono ?_; rintro e w1 ⟨b, rfl, g, t, Y, K⟩; dsimp only))
  clear hnew
  replace K : BK W.heap.size W b g t 3 newS Y w1 := ⟨K.at_, fun k hk => Nat.le_trans HK.size (K.foot k hk), below_then HK (Nat.le_refl _) K.below, Nat.le_refl _⟩
  clear HK
  go_upto_region 6 with (first | (go_at_call 35; refine (hpick _).mono ?_; rintro e w' ⟨rfl, rfl⟩; dsimp only))
  clear hpick
  go_upto_region 8 with (first | (go_at_call 16; refine (k3 K2.at_).mono ?_; rintro e w2 ⟨rfl, hT⟩; dsimp only; obtain ⟨Yz, K3⟩ := K2.bt hT; clear hT K2) | (go_at_call 20; refine (k2 K1.at_).mono ?_; rintro e w2 ⟨rfl, hT⟩; dsimp only; obtain ⟨Yz, K2⟩ := K1.bt hT; clear hT K1) | (go_at_call 20; refine (k1 K.at_).mono ?_; rintro e w2 ⟨rfl, hT⟩; dsimp only; obtain ⟨Yz, K1⟩ := K.bt hT; clear hT K))
  clear k1 k2 k3
  go_upto_region 9 with (first | (go_at_call 22; refine (k4 K3.at_).mono ?_; rintro e w2 ⟨rfl, hT⟩; dsimp only; obtain ⟨Yz, K4⟩ := K3.bt hT; clear hT K3))
  clear k4
  cases bb with
  | false =>
    have hle : ¬ (cv : Int) ≤ tk := of_decide_eq_false hbb
    clear hbb hge k7 k8 k9 k10 k11 k12
    simp only [Bool.false_eq_true, if_false] at k5
    go_upto_region 11 with (first | (go_at_call 17; refine (k5 K4.at_).mono ?_; rintro e w2 ⟨rfl, hT⟩; dsimp only; obtain ⟨Yz, K5⟩ := K4.bt hT; clear hT K4))
    clear k5
    go_upto_region 12 with (first | (go_at_call 17; refine (k6 K5.at_).mono ?_; rintro e w2 ⟨rfl, hT⟩; dsimp only; obtain ⟨Yz, K6⟩ := K5.bt hT; clear hT K5))
    clear k6
    go_wp2
    go_ret
    exact ⟨rfl, K6.below⟩
  | true =>
    have hle : (cv : Int) ≤ tk := of_decide_eq_true hbb
    clear hbb hge
    simp only [if_true] at k5 k9
    go_upto_region 11 with (first | (go_at_call 17; refine (k5 K4.at_).mono ?_; rintro e w2 ⟨rfl, hT⟩; dsimp only; obtain ⟨Yz, K5⟩ := K4.bt hT; clear hT K4))
    clear k5
    go_upto_region 12 with (first | (go_at_call 17; refine (k6 K5.at_).mono ?_; rintro e w2 ⟨rfl, hT⟩; dsimp only; obtain ⟨Yz, K6⟩ := K5.bt hT; clear hT K5))
    clear k6
    go_upto_region 16 with fail
    go_upto_region 17 with (first | (go_at_call 17; refine (k7 K6.at_).mono ?_; rintro e w2 ⟨rfl, hT⟩; dsimp only; obtain ⟨Yz, K7⟩ := K6.bt hT; clear hT K6))
    go_upto_region 18 with (first | (go_at_call 20; refine (k8 K7.at_).mono ?_; rintro e w2 ⟨rfl, hT⟩; dsimp only; obtain ⟨Yz, K8⟩ := K7.bt hT; clear hT K7))
    go_upto_region 19 with (first | (go_at_call 17; refine (k9 K8.at_).mono ?_; rintro e w2 ⟨rfl, hT⟩; dsimp only; obtain ⟨Yz, K9⟩ := K8.bt hT; clear hT K8))
    go_upto_region 20 with (first | (go_at_call 20; refine (k10 K9.at_).mono ?_; rintro e w2 ⟨rfl, hT⟩; dsimp only; obtain ⟨Yz, K10⟩ := K9.bt hT; clear hT K9))
    go_upto_region 21 with (first | (go_at_call 20; refine (k11 K10.at_).mono ?_; rintro e w2 ⟨rfl, hT⟩; dsimp only; obtain ⟨Yz, K11⟩ := K10.bt hT; clear hT K10))
    go_upto_region 22 with (first | (go_at_call 17; refine (k12 K11.at_).mono ?_; rintro e w2 ⟨rfl, hT⟩; dsimp only; obtain ⟨Yz, K12⟩ := K11.bt hT; clear hT K11))
    go_wp2
    go_ret
    exact ⟨rfl, K12.below⟩
theorem times_all (core cv tk : Int) (W : World) (hI : I64 core) (h1 : U64 cv) (h2 : U64 tk) : Calls Tryz.prog 5 #[vI core, vU cv, vU tk] W fun e w' => e = .returned (.bool true) ∧ Below W.heap.size W w' := by
  obtain ⟨a, rfl, k1⟩ := nat_of h1
  obtain ⟨b, rfl, k2⟩ := nat_of h2
  exact times_walk core a b W hI k1 k2
end Go.Proofs.YteklkololojamaaGreat
