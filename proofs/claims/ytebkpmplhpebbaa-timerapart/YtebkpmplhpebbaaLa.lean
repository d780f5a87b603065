/- TimerApart's walk. -/
import Derived.Test.YtebkpmplhpebbaaKc
namespace Go.Proofs.Ytebkpmplhpebbaa
open Go.RowKit
open Tim
set_option linter.unusedVariables false
set_option linter.unusedSimpArgs false
set_option maxRecDepth 8000

theorem or0 (x : Int) (h0 : 0 ≤ x) (h1 : x ≤ 3) : bits .or .u64 x 0 = x := by
  have : x = 0 ∨ x = 1 ∨ x = 2 ∨ x = 3 := by omega
  rcases this with rfl | rfl | rfl | rfl <;> decide
/-- What core 2 has. -/
structure Two (T : Tm) (ctl cval : Int) : Prop where
  c : T.ctl 2 = ctl % 4
  v : T.cval 2 = cval
  n : T.cnt = 0
theorem Two.write {T : Tm} {ctl cval : Int} (H : Two T ctl cval) {core sys v : Int} (hc : core ≠ 2) : Two (writeT 4 T core sys v) ctl cval := by
  unfold writeT
  cases h1 : hasB 4 core with
  | false => rw [Bool.false_and, if_neg (by decide)]; exact H
  | true =>
    obtain ⟨c, rfl, h4⟩ := core_of h1
    have hne : ¬ (2 = c) := by omega
    cases wregB sys with
    | false => exact H
    | true =>
      rw [Bool.true_and, if_pos rfl, Int.toNat_natCast]
      split
      · exact ⟨H.c, by show (if 2 = c then v else T.cval 2) = cval; rw [if_neg hne]; exact H.v, H.n⟩
      · exact ⟨by show (if 2 = c then v % 4 else T.ctl 2) = ctl % 4; rw [if_neg hne]; exact H.c, H.v, H.n⟩
theorem two_new (ctl cval : Int) : Two (writeT 4 (writeT 4 zeroT 2 24345 ctl) 2 24346 cval) ctl cval := ⟨rfl, rfl, rfl⟩
theorem two_bits {T : Tm} {ctl cval : Int} (H : Two T ctl cval) : readV 4 T 2 24345 = if ctl % 2 = 1 ∧ cval ≤ 0 then ctl % 4 + 4 else ctl % 4 := by
  show (if T.ctl 2 % 2 = 1 ∧ T.cval 2 ≤ T.cnt then T.ctl 2 + 4 else T.ctl 2) = _
  rw [H.c, H.v, H.n]
  have e : ctl % 4 % 2 = ctl % 2 := by omega
  rw [e]
theorem two_cval {T : Tm} {ctl cval : Int} (H : Two T ctl cval) : readV 4 T 2 24346 = cval := H.v
theorem two_high {T : Tm} {ctl cval : Int} (H : Two T ctl cval) : highV 4 T 2 = (decide (ctl % 4 = 1) && decide (cval ≤ 0)) := by
  show (decide (T.ctl 2 = 1) && decide (T.cval 2 ≤ T.cnt)) = _
  rw [H.c, H.v, H.n]
set_option maxHeartbeats 2000000 in
theorem apart_walk (ctl cval : Int) (v2 : Value) (ss : List St4) (W : World) (hctl : U64 ctl) (hcval : U64 cval) (R : Scr W v2 ss) : Calls Try.prog 6 #[vU ctl, vU cval, v2] W fun e w' => e = .returned (.bool true) ∧ Below W.heap.size W w' := by
  obtain ⟨ao, cap, ev⟩ := R.len
  have hkn := known_c W
  go_enter Try.func6, Try.ntmps6
  go_upto_region 2 with (first | (go_at_call 7; refine hkn.mono ?_; rintro e w1 ⟨rfl, hB1⟩; dsimp only))
  clear hkn
  have hnew := new_c 4 (by decide) (by decide) w1
  go_upto_region 5 with (first | (go_at_call 8; refine hnew.mono ?_; rintro e w2 ⟨g, rfl, cb, hG, hB, hg, hcb⟩; dsimp only))
  have K0 := newKW hG hB hg hcb
  have K : KW W.heap.size W g cb 4 zeroT w2 := ⟨K0.at_, fun k hk => Nat.le_trans hB1.size (K0.foot k hk), below_then hB1 (Nat.le_refl _) hB, Nat.le_refl _⟩
  clear hnew hG hB hg hcb K0 hB1
  have h := write_c K.at_ 2 24345 hctl
  go_upto_region 6 with (first | (go_at_call 14; refine h.mono ?_; rintro e w3 ⟨rfl, hT⟩; dsimp only))
  clear h
  replace K := K.tt hT
  clear hT
  have h := write_c K.at_ 2 24346 hcval
  go_upto_region 7 with (first | (go_at_call 14; refine h.mono ?_; rintro e w4 ⟨rfl, hT⟩; dsimp only))
  clear h
  replace K := K.tt hT
  clear hT
  have K0 : ∃ T, Two T ctl cval ∧ KW W.heap.size W g cb 4 T w4 := ⟨_, two_new ctl cval, K⟩
  clear K
  rw [ev]
  go_wp2
  go_loopw [10, 11] (fun s10 s11 wr => ∃ i : Nat, i ≤ min ss.length 60 ∧ s10 = .int .i64 i ∧ Hid (∃ T, Two T ctl cval ∧ KW W.heap.size W g cb 4 T wr)) (fun s10 s11 _ => 60 - (intOf s10).toNat)
  case atStart => exact ⟨0, Nat.zero_le _, rfl, K0⟩
  case round =>
    clear K0
    obtain ⟨i, hi, rfl, hM⟩ := hrel
    obtain ⟨T, H2, K⟩ := hM.out
    clear hM
    by_cases h1 : (i : Int) < ss.length
    · by_cases h2 : (i : Int) < 60
      · have hs := List.getElem?_eq_getElem (l := ss) (i := i) (by omega)
        generalize ss[i] = o at hs
        obtain ⟨ra, cap2, ev', hc⟩ := R.at K.below hs
        rw [ev] at ev'
        cases ev'
        have hwf := R.wf o (List.mem_of_getElem? hs)
        have z1 : wr.cell? ⟨(ra.add (i * 4)).block, (ra.add (i * 4)).off + 1, none⟩ = some (vI o.c) := (hc 1 _ rfl).2
        by_cases hcore : o.c = 2
        · go_wp2
          go_roundw
          case rel => exact ⟨i + 1, by omega, by go_num, T, H2, K⟩
          case measure => simp [intOf]; omega
        · have hb : (o.c != 2) = true := by simpa using hcore
          go_upto_region 12 with fail
          clear z1
          have hst : WrC g cb 4 (writeT 4 T o.c (sysV o.s) o.v) wr 0 { wr with drawn := wr.drawn + 1 } := Rel.below_draws (n := 1) (Below.refl _ _)
          refine Chn.wp_region_chainL (WrC g cb 4 (writeT 4 T o.c (sysV o.s) o.v) wr) [7, 13] [2, 2, 2, 2, 2, 2, 0, 2, 2, 2, 2, 2, 1, 2] [ptr g 0, vI o.c, .slice (some ra) ss.length cap, vI i, .pointer (some (ra.add (i * 4))), .pointer (some ⟨(ra.add (i * 4)).block, (ra.add (i * 4)).off + 2, none⟩), vI o.s, vI (sysV o.s), .slice (some ra) ss.length cap, vI i, .pointer (some (ra.add (i * 4))), .pointer (some ⟨(ra.add (i * 4)).block, (ra.add (i * 4)).off + 3, none⟩), vU o.v, vI (writeE 4 o.c (sysV o.s))] (by kernel_rfl) (by kernel_rfl) (by kernel_rfl) (by kernel_rfl) (by kernel_rfl) hst ?_
          clear hst
          refine ⟨fun j w1 hj hC => by exact Chn.upon_pure hC (fun F hF => by (go_simp <;> exact hF)), ?_⟩
          simp only [Act.put, List.setIfInBounds_toArray, List.set_cons_succ, List.set_cons_zero]
          refine ⟨fun j w1 hj hC => by exact Chn.upon_pure hC (fun F hF => by (go_simp <;> exact hF)), ?_⟩
          simp only [Act.put, List.setIfInBounds_toArray, List.set_cons_succ, List.set_cons_zero]
          refine ⟨fun j w1 hj hC => by exact Chn.upon_pure hC (fun F hF => by (go_simp <;> exact hF)), ?_⟩
          simp only [Act.put, List.setIfInBounds_toArray, List.set_cons_succ, List.set_cons_zero]
          refine ⟨fun j w1 hj hC => by exact Chn.upon_pure hC (fun F hF => by (go_simp <;> exact hF)), ?_⟩
          simp only [Act.put, List.setIfInBounds_toArray, List.set_cons_succ, List.set_cons_zero]
          refine ⟨fun j w1 hj hC => by exact Chn.upon_pure hC (fun F hF => by (go_simp <;> exact hF)), ?_⟩
          simp only [Act.put, List.setIfInBounds_toArray, List.set_cons_succ, List.set_cons_zero]
          refine ⟨fun j w1 hj hC => by exact Chn.upon_pure hC (fun F hF => by (go_simp <;> exact hF)), ?_⟩
          simp only [Act.put, List.setIfInBounds_toArray, List.set_cons_succ, List.set_cons_zero]
          refine ⟨fun j w1 hj hC => by
            have z : w1.cell? ⟨(ra.add (i * 4)).block, (ra.add (i * 4)).off + 2, none⟩ = some (vI o.s) := cell_keeps (wrC_below (Nat.le_trans hj (by decide)) hC) (hc 2 _ rfl)
            exact Chn.upon_pure hC (fun F hF => by (go_simp <;> exact hF)), ?_⟩
          simp only [Act.put, List.setIfInBounds_toArray, List.set_cons_succ, List.set_cons_zero]
          refine ⟨fun w1 hC => by
            exact Chn.upon_call (C := WrC g cb 4 (writeT 4 T o.c (sysV o.s) o.v) wr 1) (sys_c o.s hwf.s w1) (fun e2 w2 hh => ⟨hh.1, below_then hC (Nat.le_refl _) hh.2⟩) (fun F hF => by (go_simp <;> exact hF)), ?_⟩
          simp only [Act.put, List.setIfInBounds_toArray, List.set_cons_succ, List.set_cons_zero]
          refine ⟨fun j w1 hj hC => by exact Chn.upon_pure hC (fun F hF => by (go_simp <;> exact hF)), ?_⟩
          simp only [Act.put, List.setIfInBounds_toArray, List.set_cons_succ, List.set_cons_zero]
          refine ⟨fun j w1 hj hC => by exact Chn.upon_pure hC (fun F hF => by (go_simp <;> exact hF)), ?_⟩
          simp only [Act.put, List.setIfInBounds_toArray, List.set_cons_succ, List.set_cons_zero]
          refine ⟨fun j w1 hj hC => by exact Chn.upon_pure hC (fun F hF => by (go_simp <;> exact hF)), ?_⟩
          simp only [Act.put, List.setIfInBounds_toArray, List.set_cons_succ, List.set_cons_zero]
          refine ⟨fun j w1 hj hC => by exact Chn.upon_pure hC (fun F hF => by (go_simp <;> exact hF)), ?_⟩
          simp only [Act.put, List.setIfInBounds_toArray, List.set_cons_succ, List.set_cons_zero]
          refine ⟨fun j w1 hj hC => by
            have z : w1.cell? ⟨(ra.add (i * 4)).block, (ra.add (i * 4)).off + 3, none⟩ = some (vU o.v) := cell_keeps (wrC_below (Nat.le_trans hj (by decide)) hC) (hc 3 _ rfl)
            exact Chn.upon_pure hC (fun F hF => by (go_simp <;> exact hF)), ?_⟩
          simp only [Act.put, List.setIfInBounds_toArray, List.set_cons_succ, List.set_cons_zero]
          refine ⟨fun w1 hC => by
            have hq := write_c ((K.at_).grow hC) o.c (sysV o.s) hwf.v
            exact Chn.upon_call (C := WrC g cb 4 (writeT 4 T o.c (sysV o.s) o.v) wr 2) hq (fun e2 w2 hh => ⟨hh.1, hh.2.1, (goes_of_below hC).trans hh.2.2 fun _ _ e => e⟩) (fun F hF => by (go_simp <;> exact hF)), ?_⟩
          simp only [Act.put, List.setIfInBounds_toArray, List.set_cons_succ, List.set_cons_zero]
          intro w5 hC
          replace hC : TT g cb 4 (writeT 4 T o.c (sysV o.s) o.v) wr w5 := hC
          go_wp2
          go_roundw
          case rel => exact ⟨i + 1, by omega, by go_num, _, H2.write hcore, K.tt hC⟩
          case measure => simp [intOf]; omega
      · clear hi
        go_upto_region 13 with fail
        have hr := read_c K.at_ 2 24345
        go_upto_region 14 with (first | (go_at_call 11; refine hr.mono ?_; rintro e w6 ⟨rfl, hB⟩; dsimp only))
        clear hr
        replace K := K.grow hB
        clear hB
        have hr := read_c K.at_ 2 24346
        rw [two_cval H2] at hr
        go_upto_region 15 with (first | (go_at_call 11; refine hr.mono ?_; rintro e w7 ⟨rfl, hB⟩; dsimp only))
        clear hr
        replace K := K.grow hB
        clear hB
        have eE : readE 4 2 24345 = 0 := rfl
        have eE2 : readE 4 2 24346 = 0 := rfl
        rw [eE, eE2]
        have hh := thigh_c K.at_ 2
        have a1 := and1 ctl hctl.1 hctl.2
        have a3 := and3 ctl hctl.1 hctl.2
        have hb := two_bits H2
        have hg := two_high H2
        have m0 : 0 ≤ ctl % 4 := by omega
        have m3 : ctl % 4 ≤ 3 := by omega
        have o4 := or4 (ctl % 4) m0 m3
        have o0 := or0 (ctl % 4) m0 m3
        rw [← a3] at o4 o0
        have hKB := show Hid _ from K.below
        clear K H2
        generalize highV 4 T 2 = hv at hh hg
        generalize readV 4 T 2 24345 = rv at hb ⊢
        have hc0 := hcval.1
        by_cases c3 : ctl % 4 = 1
        · have c1 : ctl % 2 = 1 := by omega
          by_cases c0 : cval = 0
          · have b1 : (bits .and .u64 ctl 1 == 1) = true := by rw [a1, show ctl % 2 = 1 by omega]; rfl
            have b3 : (bits .and .u64 ctl 3 == 1) = true := by rw [a3, show ctl % 4 = 1 by omega]; rfl
            rw [if_pos ⟨c1, by omega⟩, ← a3, ← o4] at hb
            subst hb
            rw [decide_eq_true (by omega : ctl % 4 = 1), decide_eq_true (by omega : cval ≤ 0)] at hg
            replace hg : hv = true := hg
            subst hg
            subst c0
            clear a1 a3 c1 c3 o4 o0 m0 m3
            go_wp2_with (first | (go_at_call 17; refine hh.mono ?_; rintro e w8 ⟨rfl, hB⟩; dsimp only))
            go_ret
            exact ⟨rfl, below_then hKB.out (Nat.le_refl _) hB⟩
          · have b1 : (bits .and .u64 ctl 1 == 1) = true := by rw [a1, show ctl % 2 = 1 by omega]; rfl
            have b3 : (bits .and .u64 ctl 3 == 1) = true := by rw [a3, show ctl % 4 = 1 by omega]; rfl
            rw [if_neg (by omega), ← a3, ← o0] at hb
            subst hb
            rw [decide_eq_true (by omega : ctl % 4 = 1), decide_eq_false (by omega : ¬ cval ≤ 0)] at hg
            replace hg : hv = false := hg
            subst hg
            have b0 : (cval == 0) = false := by simpa using c0
            clear a1 a3 c1 c3 o4 o0 m0 m3 c0 hcval hc0
            go_wp2_with (first | (go_at_call 17; refine hh.mono ?_; rintro e w8 ⟨rfl, hB⟩; dsimp only))
            go_ret
            exact ⟨rfl, below_then hKB.out (Nat.le_refl _) hB⟩
        · by_cases c1 : ctl % 2 = 1
          · by_cases c0 : cval = 0
            · have b1 : (bits .and .u64 ctl 1 == 1) = true := by rw [a1, show ctl % 2 = 1 by omega]; rfl
              have b3 : (bits .and .u64 ctl 3 == 1) = false := by rw [a3]; simpa using c3
              rw [if_pos ⟨c1, by omega⟩, ← a3, ← o4] at hb
              subst hb
              rw [decide_eq_false c3, Bool.false_and] at hg
              replace hg : hv = false := hg
              subst hg
              subst c0
              clear a1 a3 c1 c3 o4 o0 m0 m3
              go_wp2_with (first | (go_at_call 17; refine hh.mono ?_; rintro e w8 ⟨rfl, hB⟩; dsimp only))
              go_ret
              exact ⟨rfl, below_then hKB.out (Nat.le_refl _) hB⟩
            · have b1 : (bits .and .u64 ctl 1 == 1) = true := by rw [a1, show ctl % 2 = 1 by omega]; rfl
              have b3 : (bits .and .u64 ctl 3 == 1) = false := by rw [a3]; simpa using c3
              rw [if_neg (by omega), ← a3, ← o0] at hb
              subst hb
              rw [decide_eq_false c3, Bool.false_and] at hg
              replace hg : hv = false := hg
              subst hg
              have b0 : (cval == 0) = false := by simpa using c0
              clear a1 a3 c1 c3 o4 o0 m0 m3 c0 hcval hc0
              go_wp2_with (first | (go_at_call 17; refine hh.mono ?_; rintro e w8 ⟨rfl, hB⟩; dsimp only))
              go_ret
              exact ⟨rfl, below_then hKB.out (Nat.le_refl _) hB⟩
          · by_cases c0 : cval = 0
            · have b1 : (bits .and .u64 ctl 1 == 1) = false := by rw [a1, show ctl % 2 = 0 by omega]; rfl
              have b3 : (bits .and .u64 ctl 3 == 1) = false := by rw [a3]; simpa using c3
              rw [if_neg (by omega), ← a3, ← o0] at hb
              subst hb
              rw [decide_eq_false c3, Bool.false_and] at hg
              replace hg : hv = false := hg
              subst hg
              subst c0
              clear a1 a3 c1 c3 o4 o0 m0 m3
              go_wp2_with (first | (go_at_call 17; refine hh.mono ?_; rintro e w8 ⟨rfl, hB⟩; dsimp only))
              go_ret
              exact ⟨rfl, below_then hKB.out (Nat.le_refl _) hB⟩
            · have b1 : (bits .and .u64 ctl 1 == 1) = false := by rw [a1, show ctl % 2 = 0 by omega]; rfl
              have b3 : (bits .and .u64 ctl 3 == 1) = false := by rw [a3]; simpa using c3
              rw [if_neg (by omega), ← a3, ← o0] at hb
              subst hb
              rw [decide_eq_false c3, Bool.false_and] at hg
              replace hg : hv = false := hg
              subst hg
              have b0 : (cval == 0) = false := by simpa using c0
              clear a1 a3 c1 c3 o4 o0 m0 m3 c0 hcval hc0
              go_wp2_with (first | (go_at_call 17; refine hh.mono ?_; rintro e w8 ⟨rfl, hB⟩; dsimp only))
              go_ret
              exact ⟨rfl, below_then hKB.out (Nat.le_refl _) hB⟩
    · clear hi
      go_upto_region 13 with fail
      have hr := read_c K.at_ 2 24345
      go_upto_region 14 with (first | (go_at_call 11; refine hr.mono ?_; rintro e w6 ⟨rfl, hB⟩; dsimp only))
      clear hr
      replace K := K.grow hB
      clear hB
      have hr := read_c K.at_ 2 24346
      rw [two_cval H2] at hr
      go_upto_region 15 with (first | (go_at_call 11; refine hr.mono ?_; rintro e w7 ⟨rfl, hB⟩; dsimp only))
      clear hr
      replace K := K.grow hB
      clear hB
      have eE : readE 4 2 24345 = 0 := rfl
      have eE2 : readE 4 2 24346 = 0 := rfl
      rw [eE, eE2]
      have hh := thigh_c K.at_ 2
      have a1 := and1 ctl hctl.1 hctl.2
      have a3 := and3 ctl hctl.1 hctl.2
      have hb := two_bits H2
      have hg := two_high H2
      have m0 : 0 ≤ ctl % 4 := by omega
      have m3 : ctl % 4 ≤ 3 := by omega
      have o4 := or4 (ctl % 4) m0 m3
      have o0 := or0 (ctl % 4) m0 m3
      rw [← a3] at o4 o0
      have hKB := show Hid _ from K.below
      clear K H2
      generalize highV 4 T 2 = hv at hh hg
      generalize readV 4 T 2 24345 = rv at hb ⊢
      have hc0 := hcval.1
      by_cases c3 : ctl % 4 = 1
      · have c1 : ctl % 2 = 1 := by omega
        by_cases c0 : cval = 0
        · have b1 : (bits .and .u64 ctl 1 == 1) = true := by rw [a1, show ctl % 2 = 1 by omega]; rfl
          have b3 : (bits .and .u64 ctl 3 == 1) = true := by rw [a3, show ctl % 4 = 1 by omega]; rfl
          rw [if_pos ⟨c1, by omega⟩, ← a3, ← o4] at hb
          subst hb
          rw [decide_eq_true (by omega : ctl % 4 = 1), decide_eq_true (by omega : cval ≤ 0)] at hg
          replace hg : hv = true := hg
          subst hg
          subst c0
          clear a1 a3 c1 c3 o4 o0 m0 m3
          go_wp2_with (first | (go_at_call 17; refine hh.mono ?_; rintro e w8 ⟨rfl, hB⟩; dsimp only))
          go_ret
          exact ⟨rfl, below_then hKB.out (Nat.le_refl _) hB⟩
        · have b1 : (bits .and .u64 ctl 1 == 1) = true := by rw [a1, show ctl % 2 = 1 by omega]; rfl
          have b3 : (bits .and .u64 ctl 3 == 1) = true := by rw [a3, show ctl % 4 = 1 by omega]; rfl
          rw [if_neg (by omega), ← a3, ← o0] at hb
          subst hb
          rw [decide_eq_true (by omega : ctl % 4 = 1), decide_eq_false (by omega : ¬ cval ≤ 0)] at hg
          replace hg : hv = false := hg
          subst hg
          have b0 : (cval == 0) = false := by simpa using c0
          clear a1 a3 c1 c3 o4 o0 m0 m3 c0 hcval hc0
          go_wp2_with (first | (go_at_call 17; refine hh.mono ?_; rintro e w8 ⟨rfl, hB⟩; dsimp only))
          go_ret
          exact ⟨rfl, below_then hKB.out (Nat.le_refl _) hB⟩
      · by_cases c1 : ctl % 2 = 1
        · by_cases c0 : cval = 0
          · have b1 : (bits .and .u64 ctl 1 == 1) = true := by rw [a1, show ctl % 2 = 1 by omega]; rfl
            have b3 : (bits .and .u64 ctl 3 == 1) = false := by rw [a3]; simpa using c3
            rw [if_pos ⟨c1, by omega⟩, ← a3, ← o4] at hb
            subst hb
            rw [decide_eq_false c3, Bool.false_and] at hg
            replace hg : hv = false := hg
            subst hg
            subst c0
            clear a1 a3 c1 c3 o4 o0 m0 m3
            go_wp2_with (first | (go_at_call 17; refine hh.mono ?_; rintro e w8 ⟨rfl, hB⟩; dsimp only))
            go_ret
            exact ⟨rfl, below_then hKB.out (Nat.le_refl _) hB⟩
          · have b1 : (bits .and .u64 ctl 1 == 1) = true := by rw [a1, show ctl % 2 = 1 by omega]; rfl
            have b3 : (bits .and .u64 ctl 3 == 1) = false := by rw [a3]; simpa using c3
            rw [if_neg (by omega), ← a3, ← o0] at hb
            subst hb
            rw [decide_eq_false c3, Bool.false_and] at hg
            replace hg : hv = false := hg
            subst hg
            have b0 : (cval == 0) = false := by simpa using c0
            clear a1 a3 c1 c3 o4 o0 m0 m3 c0 hcval hc0
            go_wp2_with (first | (go_at_call 17; refine hh.mono ?_; rintro e w8 ⟨rfl, hB⟩; dsimp only))
            go_ret
            exact ⟨rfl, below_then hKB.out (Nat.le_refl _) hB⟩
        · by_cases c0 : cval = 0
          · have b1 : (bits .and .u64 ctl 1 == 1) = false := by rw [a1, show ctl % 2 = 0 by omega]; rfl
            have b3 : (bits .and .u64 ctl 3 == 1) = false := by rw [a3]; simpa using c3
            rw [if_neg (by omega), ← a3, ← o0] at hb
            subst hb
            rw [decide_eq_false c3, Bool.false_and] at hg
            replace hg : hv = false := hg
            subst hg
            subst c0
            clear a1 a3 c1 c3 o4 o0 m0 m3
            go_wp2_with (first | (go_at_call 17; refine hh.mono ?_; rintro e w8 ⟨rfl, hB⟩; dsimp only))
            go_ret
            exact ⟨rfl, below_then hKB.out (Nat.le_refl _) hB⟩
          · have b1 : (bits .and .u64 ctl 1 == 1) = false := by rw [a1, show ctl % 2 = 0 by omega]; rfl
            have b3 : (bits .and .u64 ctl 3 == 1) = false := by rw [a3]; simpa using c3
            rw [if_neg (by omega), ← a3, ← o0] at hb
            subst hb
            rw [decide_eq_false c3, Bool.false_and] at hg
            replace hg : hv = false := hg
            subst hg
            have b0 : (cval == 0) = false := by simpa using c0
            clear a1 a3 c1 c3 o4 o0 m0 m3 c0 hcval hc0
            go_wp2_with (first | (go_at_call 17; refine hh.mono ?_; rintro e w8 ⟨rfl, hB⟩; dsimp only))
            go_ret
            exact ⟨rfl, below_then hKB.out (Nat.le_refl _) hB⟩
end Go.Proofs.Ytebkpmplhpebbaa
