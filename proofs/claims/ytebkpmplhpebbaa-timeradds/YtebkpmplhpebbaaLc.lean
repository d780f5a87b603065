/- TimerAdds' walk. -/
import Derived.Test.YtebkpmplhpebbaaKc
import Derived.Test.YtebkpmplhpebbaaFr
namespace Go.Proofs.Ytebkpmplhpebbaa
open Go.RowKit
open Tim
set_option linter.unusedVariables false
set_option linter.unusedSimpArgs false
set_option maxRecDepth 8000

/-- Two timers beyond B, apart. -/
structure PW (B : Nat) (W : World) (g cb h cc n : Nat) (T U : Tm) (w : World) : Prop where
  a : KW B W g cb n T w
  b : KW B W h cc n U w
  ne : ∀ k, TFoot g cb k → ¬ TFoot h cc k
section
variable {B : Nat} {W : World} {g cb h cc n : Nat} {T U V : Tm} {w w' : World}
theorem PW.grow (H : PW B W g cb h cc n T U w) (hb : Below w.heap.size w w') : PW B W g cb h cc n T U w' := ⟨H.a.grow hb, H.b.grow hb, H.ne⟩
theorem PW.ttA (H : PW B W g cb h cc n T U w) (k : TT g cb n V w w') : PW B W g cb h cc n V U w' :=
  ⟨H.a.tt k, ⟨H.b.at_.keep fun i hi => k.2.block i (H.b.at_.lt hi) fun e => H.ne i e hi, H.b.foot, (H.a.tt k).below, H.b.le⟩, H.ne⟩
theorem PW.ttB (H : PW B W g cb h cc n T U w) (k : TT h cc n V w w') : PW B W g cb h cc n T V w' :=
  ⟨⟨H.a.at_.keep fun i hi => k.2.block i (H.a.at_.lt hi) fun e => H.ne i hi e, H.a.foot, (H.b.tt k).below, H.a.le⟩, H.b.tt k, H.ne⟩
end
theorem write_cnt (n : Nat) (T : Tm) (core sys v : Int) : (writeT n T core sys v).cnt = T.cnt := by
  unfold writeT
  split
  · split <;> rfl
  · rfl
theorem tick_zero {T : Tm} (h : T.Ok) : T.tick 0 = T := by
  cases T with
  | mk c a b =>
    have h0 := h.c0
    have h1 := h.c1
    unfold Tm.tick
    dsimp only at *
    rw [show (c + 0) % 18446744073709551616 = c by omega]
theorem Raw.at {w0 w : World} {v : Value} {zs : List Int} (h : Raw w0 v zs) (hb : Below w0.heap.size w0 w) {i : Nat} {x : Int} (hs : zs[i]? = some x) : ∃ ra cap, v = .slice (some ra) zs.length cap ∧ w.cell? (ra.add i) = some (vU x) ∧ (ra.add i).block < w.heap.size := by
  have hi := (List.getElem?_eq_some_iff.1 hs).1
  obtain ⟨ra, cap, e, hc⟩ := h.cell (by omega)
  exact ⟨ra, cap, e, by rw [hb.cell (hc i x hs).1]; exact (hc i x hs).2, Nat.lt_of_lt_of_le (hc i x hs).1 hb.size⟩
set_option maxHeartbeats 4000000 in
theorem adds_walk (cores : Int) (v1 v2 : Value) (ss : List St4) (zs : List Int) (W : World) (hco : I64 cores) (R : Scr W v1 ss) (R2 : Raw W v2 zs) : Calls Try.prog 5 #[vI cores, v1, v2] W fun e w' => e = .returned (.bool true) ∧ Below W.heap.size W w' := by
  obtain ⟨ao, cap, ev⟩ := R.len
  obtain ⟨ao2, capz, ev2⟩ := R2.len
  have hmax := R2.max
  have hmax2 : zs.length ≤ 9223372036854775807 := Nat.le_trans hmax (by decide)
  clear hmax
  have hkn := known_c W
  unfold I64 at hco
  by_cases h : cores < 0
  · go_enter Try.func5, Try.ntmps5
    go_upto_region 4 with (first | (go_at_call 7; refine hkn.mono ?_; rintro e w1 ⟨rfl, hB1⟩; dsimp only))
    clear hkn
    generalize hm : (-(cores + 1) : Int) = m
    have m0 : 0 ≤ m := by omega
    have m1 : m ≤ 9223372036854775807 := by omega
    clear hm h
    go_upto_region 5 with fail
    generalize hn : (1 + m % 8 : Int) = q
    obtain ⟨n, rfl⟩ : ∃ n : Nat, q = n := ⟨q.toNat, by omega⟩
    have n0 : 0 < n := by omega
    have n8 : n ≤ 8 := by omega
    clear hn m0 m1
    have hnew := new_c n n0 n8 w1
    go_upto_region 6 with (first | (go_at_call 8; refine hnew.mono ?_; rintro e w2 ⟨g, rfl, cb, hG, hB, hg, hcb⟩; dsimp only))
    have K0 := newKW hG hB hg hcb
    have KA : KW W.heap.size W g cb n zeroT w2 := ⟨K0.at_, fun k hk => Nat.le_trans hB1.size (K0.foot k hk), below_then hB1 (Nat.le_refl _) hB, Nat.le_refl _⟩
    clear hnew hG hB hg hcb K0 hB1
    have hnew := new_c n n0 n8 w2
    go_upto_region 9 with (first | (go_at_call 8; refine hnew.mono ?_; rintro e w3 ⟨h, rfl, cc, hG, hB, hg, hcb⟩; dsimp only))
    have P : ∃ T, T.cnt = 0 ∧ PW W.heap.size W g cb h cc n T T w3 := by
      have K0 := newKW hG hB hg hcb
      refine ⟨zeroT, rfl, KA.grow hB, ⟨K0.at_, fun k hk => Nat.le_trans KA.below.size (K0.foot k hk), (KA.grow hB).below, Nat.le_refl _⟩, fun k h1 h2 => ?_⟩
      have := KA.at_.lt h1
      have := K0.foot k h2
      omega
    clear hnew hG hB hg hcb KA
    rw [ev]
    go_wp2
    go_loopw [12] (fun s12 wr => ∃ i : Nat, i ≤ min ss.length 60 ∧ s12 = .int .i64 i ∧ Hid (∃ T, T.cnt = 0 ∧ PW W.heap.size W g cb h cc n T T wr)) (fun s12 _ => 60 - (intOf s12).toNat)
    case atStart => exact ⟨0, Nat.zero_le _, rfl, P⟩
    case round =>
      clear P
      obtain ⟨i, hi, rfl, hM⟩ := hrel
      obtain ⟨T, hT0, P⟩ := hM.out
      clear hM
      by_cases hend : (i : Int) < ss.length ∧ (i : Int) < 60
      · obtain ⟨h1, h2⟩ := hend
        have hs := List.getElem?_eq_getElem (l := ss) (i := i) (by omega)
        generalize ss[i] = o at hs
        obtain ⟨ra, cap2, ev', hc⟩ := R.at P.a.below hs
        rw [ev] at ev'
        cases ev'
        have hwf := R.wf o (List.mem_of_getElem? hs)
        have z0 : wr.cell? (ra.add (i * 4)) = some (vI o.k) := (hc 0 _ rfl).2
        by_cases k2 : o.k = 2
        · go_upto_region 13 with fail
          clear z0
          replace hT0 := show Hid _ from hT0
          have hst : WrC g cb n (writeT n T o.c (sysV o.s) o.v) wr 0 { wr with drawn := wr.drawn + 1 } := Rel.below_draws (n := 1) (Below.refl _ _)
          refine Chn.wp_region_chainL (WrC g cb n (writeT n T o.c (sysV o.s) o.v) wr) [11, 17] [2, 2, 2, 2, 2, 1, 2, 2, 2, 2, 0, 2, 2, 2, 2, 2, 1, 2] [ptr g 0, .slice (some ra) ss.length cap, vI i, .pointer (some (ra.add (i * 4))), .pointer (some ⟨(ra.add (i * 4)).block, (ra.add (i * 4)).off + 1, none⟩), vI o.c, .slice (some ra) ss.length cap, vI i, .pointer (some (ra.add (i * 4))), .pointer (some ⟨(ra.add (i * 4)).block, (ra.add (i * 4)).off + 2, none⟩), vI o.s, vI (sysV o.s), .slice (some ra) ss.length cap, vI i, .pointer (some (ra.add (i * 4))), .pointer (some ⟨(ra.add (i * 4)).block, (ra.add (i * 4)).off + 3, none⟩), vU o.v, vI (writeE n o.c (sysV o.s))] (by kernel_rfl) (by kernel_rfl) (by kernel_rfl) (by kernel_rfl) (by kernel_rfl) hst ?_
          clear hst
          refine ⟨fun j w1 hj hC => by exact Chn.upon_pure hC (fun F hF => by (go_simp <;> exact hF)), ?_⟩
          simp only [Act.put, List.setIfInBounds_toArray, List.set_cons_succ, List.set_cons_zero]
          refine ⟨fun j w1 hj hC => by exact Chn.upon_pure hC (fun F hF => by (go_simp <;> exact hF)), ?_⟩
          simp only [Act.put, List.setIfInBounds_toArray, List.set_cons_succ, List.set_cons_zero]
          refine ⟨fun j w1 hj hC => by exact Chn.upon_pure hC (fun F hF => by (go_simp <;> exact hF)), ?_⟩
          simp only [Act.put, List.setIfInBounds_toArray, List.set_cons_succ, List.set_cons_zero]
          refine ⟨fun j w1 hj hC => by exact Chn.upon_pure hC (fun F hF => by (go_simp <;> exact hF)), ?_⟩
          simp only [Act.put, List.setIfInBounds_toArray, List.set_cons_succ, List.set_cons_zero]
          refine ⟨fun j w1 hj hC => by exact Chn.upon_pure hC (fun F hF => by (go_simp <;> exact hF)), ?_⟩
          simp only [Act.put, List.setIfInBounds_toArray, List.set_cons_succ, List.set_cons_zero]
          refine ⟨fun j w1 hj hC => by
            have z : w1.cell? ⟨(ra.add (i * 4)).block, (ra.add (i * 4)).off + 1, none⟩ = some (vI o.c) := cell_keeps (wrC_below (Nat.le_trans hj (by decide)) hC) (hc 1 _ rfl)
            exact Chn.upon_pure hC (fun F hF => by (go_simp <;> exact hF)), ?_⟩
          simp only [Act.put, List.setIfInBounds_toArray, List.set_cons_succ, List.set_cons_zero]
          refine ⟨fun j w1 hj hC => by exact Chn.upon_pure hC (fun F hF => by (go_simp <;> exact hF)), ?_⟩
          simp only [Act.put, List.setIfInBounds_toArray, List.set_cons_succ, List.set_cons_zero]
          refine ⟨fun j w1 hj hC => by exact Chn.upon_pure hC (fun F hF => by (go_simp <;> exact hF)), ?_⟩
          simp only [Act.put, List.setIfInBounds_toArray, List.set_cons_succ, List.set_cons_zero]
          refine ⟨fun j w1 hj hC => by exact Chn.upon_pure hC (fun F hF => by (go_simp <;> exact hF)), ?_⟩
          simp only [Act.put, List.setIfInBounds_toArray, List.set_cons_succ, List.set_cons_zero]
          refine ⟨fun j w1 hj hC => by exact Chn.upon_pure hC (fun F hF => by (go_simp <;> exact hF)), ?_⟩
          simp only [Act.put, List.setIfInBounds_toArray, List.set_cons_succ, List.set_cons_zero]
          refine ⟨fun j w1 hj hC => by
            have z : w1.cell? ⟨(ra.add (i * 4)).block, (ra.add (i * 4)).off + 2, none⟩ = some (vI o.s) := cell_keeps (wrC_below (Nat.le_trans hj (by decide)) hC) (hc 2 _ rfl)
            exact Chn.upon_pure hC (fun F hF => by (go_simp <;> exact hF)), ?_⟩
          simp only [Act.put, List.setIfInBounds_toArray, List.set_cons_succ, List.set_cons_zero]
          refine ⟨fun w1 hC => by
            exact Chn.upon_call (C := WrC g cb n (writeT n T o.c (sysV o.s) o.v) wr 1) (sys_c o.s hwf.s w1) (fun e2 w2 hh => ⟨hh.1, below_then hC (Nat.le_refl _) hh.2⟩) (fun F hF => by (go_simp <;> exact hF)), ?_⟩
          simp only [Act.put, List.setIfInBounds_toArray, List.set_cons_succ, List.set_cons_zero]
          refine ⟨fun j w1 hj hC => by exact Chn.upon_pure hC (fun F hF => by (go_simp <;> exact hF)), ?_⟩
          simp only [Act.put, List.setIfInBounds_toArray, List.set_cons_succ, List.set_cons_zero]
          refine ⟨fun j w1 hj hC => by exact Chn.upon_pure hC (fun F hF => by (go_simp <;> exact hF)), ?_⟩
          simp only [Act.put, List.setIfInBounds_toArray, List.set_cons_succ, List.set_cons_zero]
          refine ⟨fun j w1 hj hC => by exact Chn.upon_pure hC (fun F hF => by (go_simp <;> exact hF)), ?_⟩
          simp only [Act.put, List.setIfInBounds_toArray, List.set_cons_succ, List.set_cons_zero]
          refine ⟨fun j w1 hj hC => by exact Chn.upon_pure hC (fun F hF => by (go_simp <;> exact hF)), ?_⟩
          simp only [Act.put, List.setIfInBounds_toArray, List.set_cons_succ, List.set_cons_zero]
          refine ⟨fun j w1 hj hC => by
            have z : w1.cell? ⟨(ra.add (i * 4)).block, (ra.add (i * 4)).off + 3, none⟩ = some (vU o.v) := cell_keeps (wrC_below (Nat.le_trans hj (by decide)) hC) (hc 3 _ rfl)
            exact Chn.upon_pure hC (fun F hF => by (go_simp <;> exact hF)), ?_⟩
          simp only [Act.put, List.setIfInBounds_toArray, List.set_cons_succ, List.set_cons_zero]
          refine ⟨fun w1 hC => by
            have hq := write_c ((P.a.at_).grow hC) o.c (sysV o.s) hwf.v
            exact Chn.upon_call (C := WrC g cb n (writeT n T o.c (sysV o.s) o.v) wr 2) hq (fun e2 w2 hh => ⟨hh.1, hh.2.1, (goes_of_below hC).trans hh.2.2 fun _ _ e => e⟩) (fun F hF => by (go_simp <;> exact hF)), ?_⟩
          simp only [Act.put, List.setIfInBounds_toArray, List.set_cons_succ, List.set_cons_zero]
          intro w5 hC
          replace hC : TT g cb n (writeT n T o.c (sysV o.s) o.v) wr w5 := hC
          have P5 := P.ttA hC
          have hc5 : ∀ (j : Nat) x, o.row[j]? = some x → ((ra.add (i * 4)).add j).block < w5.heap.size ∧ w5.cell? ((ra.add (i * 4)).add j) = some x := by
            obtain ⟨ra2, cap3, ev2, hc2⟩ := R.at P5.a.below hs
            rw [ev] at ev2
            cases ev2
            exact hc2
          clear hC hc
          go_upto_region 14 with fail
          have hst : WrC h cc n (writeT n T o.c (sysV o.s) o.v) w5 0 { w5 with drawn := w5.drawn + 1 } := Rel.below_draws (n := 1) (Below.refl _ _)
          refine Chn.wp_region_chainL (WrC h cc n (writeT n T o.c (sysV o.s) o.v) w5) [11, 17] [2, 2, 2, 2, 2, 1, 2, 2, 2, 2, 0, 2, 2, 2, 2, 2, 1, 2] [ptr h 0, .slice (some ra) ss.length cap, vI i, .pointer (some (ra.add (i * 4))), .pointer (some ⟨(ra.add (i * 4)).block, (ra.add (i * 4)).off + 1, none⟩), vI o.c, .slice (some ra) ss.length cap, vI i, .pointer (some (ra.add (i * 4))), .pointer (some ⟨(ra.add (i * 4)).block, (ra.add (i * 4)).off + 2, none⟩), vI o.s, vI (sysV o.s), .slice (some ra) ss.length cap, vI i, .pointer (some (ra.add (i * 4))), .pointer (some ⟨(ra.add (i * 4)).block, (ra.add (i * 4)).off + 3, none⟩), vU o.v, vI (writeE n o.c (sysV o.s))] (by kernel_rfl) (by kernel_rfl) (by kernel_rfl) (by kernel_rfl) (by kernel_rfl) hst ?_
          clear hst
          refine ⟨fun j w1 hj hC => by exact Chn.upon_pure hC (fun F hF => by (go_simp <;> exact hF)), ?_⟩
          simp only [Act.put, List.setIfInBounds_toArray, List.set_cons_succ, List.set_cons_zero]
          refine ⟨fun j w1 hj hC => by exact Chn.upon_pure hC (fun F hF => by (go_simp <;> exact hF)), ?_⟩
          simp only [Act.put, List.setIfInBounds_toArray, List.set_cons_succ, List.set_cons_zero]
          refine ⟨fun j w1 hj hC => by exact Chn.upon_pure hC (fun F hF => by (go_simp <;> exact hF)), ?_⟩
          simp only [Act.put, List.setIfInBounds_toArray, List.set_cons_succ, List.set_cons_zero]
          refine ⟨fun j w1 hj hC => by exact Chn.upon_pure hC (fun F hF => by (go_simp <;> exact hF)), ?_⟩
          simp only [Act.put, List.setIfInBounds_toArray, List.set_cons_succ, List.set_cons_zero]
          refine ⟨fun j w1 hj hC => by exact Chn.upon_pure hC (fun F hF => by (go_simp <;> exact hF)), ?_⟩
          simp only [Act.put, List.setIfInBounds_toArray, List.set_cons_succ, List.set_cons_zero]
          refine ⟨fun j w1 hj hC => by
            have z : w1.cell? ⟨(ra.add (i * 4)).block, (ra.add (i * 4)).off + 1, none⟩ = some (vI o.c) := cell_keeps (wrC_below (Nat.le_trans hj (by decide)) hC) (hc5 1 _ rfl)
            exact Chn.upon_pure hC (fun F hF => by (go_simp <;> exact hF)), ?_⟩
          simp only [Act.put, List.setIfInBounds_toArray, List.set_cons_succ, List.set_cons_zero]
          refine ⟨fun j w1 hj hC => by exact Chn.upon_pure hC (fun F hF => by (go_simp <;> exact hF)), ?_⟩
          simp only [Act.put, List.setIfInBounds_toArray, List.set_cons_succ, List.set_cons_zero]
          refine ⟨fun j w1 hj hC => by exact Chn.upon_pure hC (fun F hF => by (go_simp <;> exact hF)), ?_⟩
          simp only [Act.put, List.setIfInBounds_toArray, List.set_cons_succ, List.set_cons_zero]
          refine ⟨fun j w1 hj hC => by exact Chn.upon_pure hC (fun F hF => by (go_simp <;> exact hF)), ?_⟩
          simp only [Act.put, List.setIfInBounds_toArray, List.set_cons_succ, List.set_cons_zero]
          refine ⟨fun j w1 hj hC => by exact Chn.upon_pure hC (fun F hF => by (go_simp <;> exact hF)), ?_⟩
          simp only [Act.put, List.setIfInBounds_toArray, List.set_cons_succ, List.set_cons_zero]
          refine ⟨fun j w1 hj hC => by
            have z : w1.cell? ⟨(ra.add (i * 4)).block, (ra.add (i * 4)).off + 2, none⟩ = some (vI o.s) := cell_keeps (wrC_below (Nat.le_trans hj (by decide)) hC) (hc5 2 _ rfl)
            exact Chn.upon_pure hC (fun F hF => by (go_simp <;> exact hF)), ?_⟩
          simp only [Act.put, List.setIfInBounds_toArray, List.set_cons_succ, List.set_cons_zero]
          refine ⟨fun w1 hC => by
            exact Chn.upon_call (C := WrC h cc n (writeT n T o.c (sysV o.s) o.v) w5 1) (sys_c o.s hwf.s w1) (fun e2 w2 hh => ⟨hh.1, below_then hC (Nat.le_refl _) hh.2⟩) (fun F hF => by (go_simp <;> exact hF)), ?_⟩
          simp only [Act.put, List.setIfInBounds_toArray, List.set_cons_succ, List.set_cons_zero]
          refine ⟨fun j w1 hj hC => by exact Chn.upon_pure hC (fun F hF => by (go_simp <;> exact hF)), ?_⟩
          simp only [Act.put, List.setIfInBounds_toArray, List.set_cons_succ, List.set_cons_zero]
          refine ⟨fun j w1 hj hC => by exact Chn.upon_pure hC (fun F hF => by (go_simp <;> exact hF)), ?_⟩
          simp only [Act.put, List.setIfInBounds_toArray, List.set_cons_succ, List.set_cons_zero]
          refine ⟨fun j w1 hj hC => by exact Chn.upon_pure hC (fun F hF => by (go_simp <;> exact hF)), ?_⟩
          simp only [Act.put, List.setIfInBounds_toArray, List.set_cons_succ, List.set_cons_zero]
          refine ⟨fun j w1 hj hC => by exact Chn.upon_pure hC (fun F hF => by (go_simp <;> exact hF)), ?_⟩
          simp only [Act.put, List.setIfInBounds_toArray, List.set_cons_succ, List.set_cons_zero]
          refine ⟨fun j w1 hj hC => by
            have z : w1.cell? ⟨(ra.add (i * 4)).block, (ra.add (i * 4)).off + 3, none⟩ = some (vU o.v) := cell_keeps (wrC_below (Nat.le_trans hj (by decide)) hC) (hc5 3 _ rfl)
            exact Chn.upon_pure hC (fun F hF => by (go_simp <;> exact hF)), ?_⟩
          simp only [Act.put, List.setIfInBounds_toArray, List.set_cons_succ, List.set_cons_zero]
          refine ⟨fun w1 hC => by
            have hq := write_c ((P5.b.at_).grow hC) o.c (sysV o.s) hwf.v
            exact Chn.upon_call (C := WrC h cc n (writeT n T o.c (sysV o.s) o.v) w5 2) hq (fun e2 w2 hh => ⟨hh.1, hh.2.1, (goes_of_below hC).trans hh.2.2 fun _ _ e => e⟩) (fun F hF => by (go_simp <;> exact hF)), ?_⟩
          simp only [Act.put, List.setIfInBounds_toArray, List.set_cons_succ, List.set_cons_zero]
          intro w6 hC
          replace hC : TT h cc n (writeT n T o.c (sysV o.s) o.v) w5 w6 := hC
          have P6 := P5.ttB hC
          go_wp2
          go_roundw
          case rel => exact ⟨i + 1, by omega, by go_num, _, by rw [write_cnt]; exact hT0.out, P6⟩
          case measure => simp [intOf]; omega
        · go_wp2
          go_roundw
          case rel => exact ⟨i + 1, by omega, by go_num, T, hT0, P⟩
          case measure => simp [intOf]; omega
      · have hok := P.a.at_.ok
        have P0 : PW W.heap.size W g cb h cc n (T.tick 0) T wr := by rw [tick_zero hok]; exact P
        have hend2 : ((i : Int) < ss.length ∧ ¬ (i : Int) < 60) ∨ ¬ (i : Int) < ss.length := by omega
        replace hT0 := show Hid _ from hT0
        clear P hend hok
        rcases hend2 with ⟨h1, h2⟩ | h1
        all_goals go_upto_region 16 with fail
        all_goals
          clear h1
          rw [ev2]
          go_wp2
          go_loopw [13, 14] (fun s13 s14 wr => ∃ (i : Nat) (all : Int), i ≤ zs.length ∧ s14 = .int .i64 i ∧ s13 = .int .u64 all ∧ U64 all ∧ Hid (PW W.heap.size W g cb h cc n (T.tick all) T wr)) (fun s13 s14 _ => zs.length - (intOf s14).toNat)
          case atStart => exact ⟨0, 0, Nat.zero_le _, rfl, rfl, by unfold U64; decide, P0⟩
          case round =>
            clear P0
            obtain ⟨i, all, hi, rfl, rfl, hall, hM⟩ := hrel
            have P := hM.out
            clear hM
            by_cases hin : (i : Int) < zs.length
            · have hs := List.getElem?_eq_getElem (l := zs) (i := i) (by omega)
              generalize zs[i] = x at hs
              obtain ⟨ra, cap2, ev', hz, hlt⟩ := R2.at P.a.below hs
              rw [ev2] at ev'
              cases ev'
              have hx := R2.wf x (List.mem_of_getElem? hs)
              have hti := tick_c P.a.at_ x
              rw [tick_next] at hti
              have e1 : IntKind.u64.wrap (all + x) = (all + x) % 18446744073709551616 := by rw [IntKind.wrap_u64]
              replace e1 := show Hid _ from e1
              go_wp2_with (first | (go_at_call 15; refine hti.mono ?_; rintro e w5 ⟨rfl, hC⟩; dsimp only; replace P := P.ttA hC; clear hC hti; have hz2 : w5.cell? (ra.add i) = some (vU x) := (by obtain ⟨ra3, cap3, ev3, hz3, _⟩ := R2.at P.a.below hs; rw [ev2] at ev3; cases ev3; exact hz3)))
              go_roundw
              case rel => exact ⟨i + 1, (all + x) % 18446744073709551616, by omega, by go_num, by rw [e1.out], ⟨by omega, by omega⟩, P⟩
              case measure => simp [intOf]; omega
            · have hti := tick_c P.b.at_ all
              go_upto_region 22 with (first | (go_at_call 15; refine hti.mono ?_; rintro e w5 ⟨rfl, hC⟩; dsimp only))
              replace P := P.ttB hC
              clear hti hC hin hi
              go_wp2
              go_loopw [15, 16, 17, 18, 19] (fun s15 s16 s17 s18 s19 wr => ∃ i : Nat, i ≤ n ∧ s15 = .int .i64 i ∧ Hid (PW W.heap.size W g cb h cc n (T.tick all) (T.tick all) wr)) (fun s15 s16 s17 s18 s19 _ => n - (intOf s15).toNat)
              case atStart => exact ⟨0, Nat.zero_le _, rfl, P⟩
              case round =>
                clear P
                obtain ⟨i, hi, rfl, hM⟩ := hrel
                have P := hM.out
                clear hM
                by_cases hin : (i : Int) < n
                · have r1 := read_c P.a.at_ i 24345
                  have r2 := fun w' (hB : Below wr.heap.size wr w') => read_c (P.b.at_.grow hB) i 24345
                  have g1 := fun w' (hB : Below wr.heap.size wr w') => thigh_c (P.a.at_.grow hB) i
                  have g2 := fun w' (hB : Below wr.heap.size wr w') => thigh_c (P.b.at_.grow hB) i
                  generalize readV n (T.tick all) i 24345 = rv at r1 r2
                  generalize readE n i 24345 = re at r1 r2
                  have hP := show Hid _ from P
                  clear P
                  cases highV n (T.tick all) i
                  all_goals
                    go_upto_region 26 with (first | (go_at_call 11; refine r1.mono ?_; rintro e w6 ⟨rfl, hB6⟩; dsimp only))
                    replace r2 := r2 w6 hB6
                    go_upto_region 27 with (first | (go_at_call 11; refine r2.mono ?_; rintro e w7 ⟨rfl, hB7⟩; dsimp only))
                    have B7 := below_then hB6 (Nat.le_refl _) hB7
                    replace g1 := g1 w7 B7
                    replace B7 := show Hid _ from B7
                    clear r1 r2 hB6 hB7
                    go_wp2_with (first | (go_at_call 17; refine g1.mono ?_; rintro e w8 ⟨rfl, hB8⟩; dsimp only; have B8 := below_then B7.out (Nat.le_refl _) hB8; clear g1 hB8; replace g2 := g2 w8 B8; replace B8 := show Hid _ from B8) | (go_at_call 17; refine g2.mono ?_; rintro e w9 ⟨rfl, hB9⟩; dsimp only; have B9 := below_then B8.out (Nat.le_refl _) hB9; clear g2 hB9; replace B9 := show Hid _ from B9))
                    go_roundw
                    case rel => exact ⟨i + 1, by omega, by go_num, hP.out.grow B9.out⟩
                    case measure => simp [intOf]; omega
                · have c1 := count_c P.a.at_
                  have c2 := count_c P.b.at_
                  have e0 : (T.tick all).cnt = all := by
                    show (T.cnt + all) % 18446744073709551616 = all
                    rw [hT0.out]
                    have := hall.1
                    have := hall.2
                    omega
                  rw [e0] at c1 c2
                  clear e0
                  go_wp2_with (first | (go_at_call 20; refine c1.mono ?_; rintro e w' ⟨rfl, rfl⟩; dsimp only) | (go_at_call 20; refine c2.mono ?_; rintro e w' ⟨rfl, rfl⟩; dsimp only))
                  go_ret
                  exact ⟨rfl, P.a.below⟩
  · go_enter Try.func5, Try.ntmps5
    go_upto_region 4 with (first | (go_at_call 7; refine hkn.mono ?_; rintro e w1 ⟨rfl, hB1⟩; dsimp only))
    clear hkn
    have m0 : 0 ≤ cores := by omega
    have m1 : cores ≤ 9223372036854775807 := by omega
    generalize cores = m at m0 m1 ⊢
    clear hco h
    go_upto_region 5 with fail
    generalize hn : (1 + m % 8 : Int) = q
    obtain ⟨n, rfl⟩ : ∃ n : Nat, q = n := ⟨q.toNat, by omega⟩
    have n0 : 0 < n := by omega
    have n8 : n ≤ 8 := by omega
    clear hn m0 m1
    have hnew := new_c n n0 n8 w1
    go_upto_region 6 with (first | (go_at_call 8; refine hnew.mono ?_; rintro e w2 ⟨g, rfl, cb, hG, hB, hg, hcb⟩; dsimp only))
    have K0 := newKW hG hB hg hcb
    have KA : KW W.heap.size W g cb n zeroT w2 := ⟨K0.at_, fun k hk => Nat.le_trans hB1.size (K0.foot k hk), below_then hB1 (Nat.le_refl _) hB, Nat.le_refl _⟩
    clear hnew hG hB hg hcb K0 hB1
    have hnew := new_c n n0 n8 w2
    go_upto_region 9 with (first | (go_at_call 8; refine hnew.mono ?_; rintro e w3 ⟨h, rfl, cc, hG, hB, hg, hcb⟩; dsimp only))
    have P : ∃ T, T.cnt = 0 ∧ PW W.heap.size W g cb h cc n T T w3 := by
      have K0 := newKW hG hB hg hcb
      refine ⟨zeroT, rfl, KA.grow hB, ⟨K0.at_, fun k hk => Nat.le_trans KA.below.size (K0.foot k hk), (KA.grow hB).below, Nat.le_refl _⟩, fun k h1 h2 => ?_⟩
      have := KA.at_.lt h1
      have := K0.foot k h2
      omega
    clear hnew hG hB hg hcb KA
    rw [ev]
    go_wp2
    go_loopw [12] (fun s12 wr => ∃ i : Nat, i ≤ min ss.length 60 ∧ s12 = .int .i64 i ∧ Hid (∃ T, T.cnt = 0 ∧ PW W.heap.size W g cb h cc n T T wr)) (fun s12 _ => 60 - (intOf s12).toNat)
    case atStart => exact ⟨0, Nat.zero_le _, rfl, P⟩
    case round =>
      clear P
      obtain ⟨i, hi, rfl, hM⟩ := hrel
      obtain ⟨T, hT0, P⟩ := hM.out
      clear hM
      by_cases hend : (i : Int) < ss.length ∧ (i : Int) < 60
      · obtain ⟨h1, h2⟩ := hend
        have hs := List.getElem?_eq_getElem (l := ss) (i := i) (by omega)
        generalize ss[i] = o at hs
        obtain ⟨ra, cap2, ev', hc⟩ := R.at P.a.below hs
        rw [ev] at ev'
        cases ev'
        have hwf := R.wf o (List.mem_of_getElem? hs)
        have z0 : wr.cell? (ra.add (i * 4)) = some (vI o.k) := (hc 0 _ rfl).2
        by_cases k2 : o.k = 2
        · go_upto_region 13 with fail
          clear z0
          replace hT0 := show Hid _ from hT0
          have hst : WrC g cb n (writeT n T o.c (sysV o.s) o.v) wr 0 { wr with drawn := wr.drawn + 1 } := Rel.below_draws (n := 1) (Below.refl _ _)
          refine Chn.wp_region_chainL (WrC g cb n (writeT n T o.c (sysV o.s) o.v) wr) [11, 17] [2, 2, 2, 2, 2, 1, 2, 2, 2, 2, 0, 2, 2, 2, 2, 2, 1, 2] [ptr g 0, .slice (some ra) ss.length cap, vI i, .pointer (some (ra.add (i * 4))), .pointer (some ⟨(ra.add (i * 4)).block, (ra.add (i * 4)).off + 1, none⟩), vI o.c, .slice (some ra) ss.length cap, vI i, .pointer (some (ra.add (i * 4))), .pointer (some ⟨(ra.add (i * 4)).block, (ra.add (i * 4)).off + 2, none⟩), vI o.s, vI (sysV o.s), .slice (some ra) ss.length cap, vI i, .pointer (some (ra.add (i * 4))), .pointer (some ⟨(ra.add (i * 4)).block, (ra.add (i * 4)).off + 3, none⟩), vU o.v, vI (writeE n o.c (sysV o.s))] (by kernel_rfl) (by kernel_rfl) (by kernel_rfl) (by kernel_rfl) (by kernel_rfl) hst ?_
          clear hst
          refine ⟨fun j w1 hj hC => by exact Chn.upon_pure hC (fun F hF => by (go_simp <;> exact hF)), ?_⟩
          simp only [Act.put, List.setIfInBounds_toArray, List.set_cons_succ, List.set_cons_zero]
          refine ⟨fun j w1 hj hC => by exact Chn.upon_pure hC (fun F hF => by (go_simp <;> exact hF)), ?_⟩
          simp only [Act.put, List.setIfInBounds_toArray, List.set_cons_succ, List.set_cons_zero]
          refine ⟨fun j w1 hj hC => by exact Chn.upon_pure hC (fun F hF => by (go_simp <;> exact hF)), ?_⟩
          simp only [Act.put, List.setIfInBounds_toArray, List.set_cons_succ, List.set_cons_zero]
          refine ⟨fun j w1 hj hC => by exact Chn.upon_pure hC (fun F hF => by (go_simp <;> exact hF)), ?_⟩
          simp only [Act.put, List.setIfInBounds_toArray, List.set_cons_succ, List.set_cons_zero]
          refine ⟨fun j w1 hj hC => by exact Chn.upon_pure hC (fun F hF => by (go_simp <;> exact hF)), ?_⟩
          simp only [Act.put, List.setIfInBounds_toArray, List.set_cons_succ, List.set_cons_zero]
          refine ⟨fun j w1 hj hC => by
            have z : w1.cell? ⟨(ra.add (i * 4)).block, (ra.add (i * 4)).off + 1, none⟩ = some (vI o.c) := cell_keeps (wrC_below (Nat.le_trans hj (by decide)) hC) (hc 1 _ rfl)
            exact Chn.upon_pure hC (fun F hF => by (go_simp <;> exact hF)), ?_⟩
          simp only [Act.put, List.setIfInBounds_toArray, List.set_cons_succ, List.set_cons_zero]
          refine ⟨fun j w1 hj hC => by exact Chn.upon_pure hC (fun F hF => by (go_simp <;> exact hF)), ?_⟩
          simp only [Act.put, List.setIfInBounds_toArray, List.set_cons_succ, List.set_cons_zero]
          refine ⟨fun j w1 hj hC => by exact Chn.upon_pure hC (fun F hF => by (go_simp <;> exact hF)), ?_⟩
          simp only [Act.put, List.setIfInBounds_toArray, List.set_cons_succ, List.set_cons_zero]
          refine ⟨fun j w1 hj hC => by exact Chn.upon_pure hC (fun F hF => by (go_simp <;> exact hF)), ?_⟩
          simp only [Act.put, List.setIfInBounds_toArray, List.set_cons_succ, List.set_cons_zero]
          refine ⟨fun j w1 hj hC => by exact Chn.upon_pure hC (fun F hF => by (go_simp <;> exact hF)), ?_⟩
          simp only [Act.put, List.setIfInBounds_toArray, List.set_cons_succ, List.set_cons_zero]
          refine ⟨fun j w1 hj hC => by
            have z : w1.cell? ⟨(ra.add (i * 4)).block, (ra.add (i * 4)).off + 2, none⟩ = some (vI o.s) := cell_keeps (wrC_below (Nat.le_trans hj (by decide)) hC) (hc 2 _ rfl)
            exact Chn.upon_pure hC (fun F hF => by (go_simp <;> exact hF)), ?_⟩
          simp only [Act.put, List.setIfInBounds_toArray, List.set_cons_succ, List.set_cons_zero]
          refine ⟨fun w1 hC => by
            exact Chn.upon_call (C := WrC g cb n (writeT n T o.c (sysV o.s) o.v) wr 1) (sys_c o.s hwf.s w1) (fun e2 w2 hh => ⟨hh.1, below_then hC (Nat.le_refl _) hh.2⟩) (fun F hF => by (go_simp <;> exact hF)), ?_⟩
          simp only [Act.put, List.setIfInBounds_toArray, List.set_cons_succ, List.set_cons_zero]
          refine ⟨fun j w1 hj hC => by exact Chn.upon_pure hC (fun F hF => by (go_simp <;> exact hF)), ?_⟩
          simp only [Act.put, List.setIfInBounds_toArray, List.set_cons_succ, List.set_cons_zero]
          refine ⟨fun j w1 hj hC => by exact Chn.upon_pure hC (fun F hF => by (go_simp <;> exact hF)), ?_⟩
          simp only [Act.put, List.setIfInBounds_toArray, List.set_cons_succ, List.set_cons_zero]
          refine ⟨fun j w1 hj hC => by exact Chn.upon_pure hC (fun F hF => by (go_simp <;> exact hF)), ?_⟩
          simp only [Act.put, List.setIfInBounds_toArray, List.set_cons_succ, List.set_cons_zero]
          refine ⟨fun j w1 hj hC => by exact Chn.upon_pure hC (fun F hF => by (go_simp <;> exact hF)), ?_⟩
          simp only [Act.put, List.setIfInBounds_toArray, List.set_cons_succ, List.set_cons_zero]
          refine ⟨fun j w1 hj hC => by
            have z : w1.cell? ⟨(ra.add (i * 4)).block, (ra.add (i * 4)).off + 3, none⟩ = some (vU o.v) := cell_keeps (wrC_below (Nat.le_trans hj (by decide)) hC) (hc 3 _ rfl)
            exact Chn.upon_pure hC (fun F hF => by (go_simp <;> exact hF)), ?_⟩
          simp only [Act.put, List.setIfInBounds_toArray, List.set_cons_succ, List.set_cons_zero]
          refine ⟨fun w1 hC => by
            have hq := write_c ((P.a.at_).grow hC) o.c (sysV o.s) hwf.v
            exact Chn.upon_call (C := WrC g cb n (writeT n T o.c (sysV o.s) o.v) wr 2) hq (fun e2 w2 hh => ⟨hh.1, hh.2.1, (goes_of_below hC).trans hh.2.2 fun _ _ e => e⟩) (fun F hF => by (go_simp <;> exact hF)), ?_⟩
          simp only [Act.put, List.setIfInBounds_toArray, List.set_cons_succ, List.set_cons_zero]
          intro w5 hC
          replace hC : TT g cb n (writeT n T o.c (sysV o.s) o.v) wr w5 := hC
          have P5 := P.ttA hC
          have hc5 : ∀ (j : Nat) x, o.row[j]? = some x → ((ra.add (i * 4)).add j).block < w5.heap.size ∧ w5.cell? ((ra.add (i * 4)).add j) = some x := by
            obtain ⟨ra2, cap3, ev2, hc2⟩ := R.at P5.a.below hs
            rw [ev] at ev2
            cases ev2
            exact hc2
          clear hC hc
          go_upto_region 14 with fail
          have hst : WrC h cc n (writeT n T o.c (sysV o.s) o.v) w5 0 { w5 with drawn := w5.drawn + 1 } := Rel.below_draws (n := 1) (Below.refl _ _)
          refine Chn.wp_region_chainL (WrC h cc n (writeT n T o.c (sysV o.s) o.v) w5) [11, 17] [2, 2, 2, 2, 2, 1, 2, 2, 2, 2, 0, 2, 2, 2, 2, 2, 1, 2] [ptr h 0, .slice (some ra) ss.length cap, vI i, .pointer (some (ra.add (i * 4))), .pointer (some ⟨(ra.add (i * 4)).block, (ra.add (i * 4)).off + 1, none⟩), vI o.c, .slice (some ra) ss.length cap, vI i, .pointer (some (ra.add (i * 4))), .pointer (some ⟨(ra.add (i * 4)).block, (ra.add (i * 4)).off + 2, none⟩), vI o.s, vI (sysV o.s), .slice (some ra) ss.length cap, vI i, .pointer (some (ra.add (i * 4))), .pointer (some ⟨(ra.add (i * 4)).block, (ra.add (i * 4)).off + 3, none⟩), vU o.v, vI (writeE n o.c (sysV o.s))] (by kernel_rfl) (by kernel_rfl) (by kernel_rfl) (by kernel_rfl) (by kernel_rfl) hst ?_
          clear hst
          refine ⟨fun j w1 hj hC => by exact Chn.upon_pure hC (fun F hF => by (go_simp <;> exact hF)), ?_⟩
          simp only [Act.put, List.setIfInBounds_toArray, List.set_cons_succ, List.set_cons_zero]
          refine ⟨fun j w1 hj hC => by exact Chn.upon_pure hC (fun F hF => by (go_simp <;> exact hF)), ?_⟩
          simp only [Act.put, List.setIfInBounds_toArray, List.set_cons_succ, List.set_cons_zero]
          refine ⟨fun j w1 hj hC => by exact Chn.upon_pure hC (fun F hF => by (go_simp <;> exact hF)), ?_⟩
          simp only [Act.put, List.setIfInBounds_toArray, List.set_cons_succ, List.set_cons_zero]
          refine ⟨fun j w1 hj hC => by exact Chn.upon_pure hC (fun F hF => by (go_simp <;> exact hF)), ?_⟩
          simp only [Act.put, List.setIfInBounds_toArray, List.set_cons_succ, List.set_cons_zero]
          refine ⟨fun j w1 hj hC => by exact Chn.upon_pure hC (fun F hF => by (go_simp <;> exact hF)), ?_⟩
          simp only [Act.put, List.setIfInBounds_toArray, List.set_cons_succ, List.set_cons_zero]
          refine ⟨fun j w1 hj hC => by
            have z : w1.cell? ⟨(ra.add (i * 4)).block, (ra.add (i * 4)).off + 1, none⟩ = some (vI o.c) := cell_keeps (wrC_below (Nat.le_trans hj (by decide)) hC) (hc5 1 _ rfl)
            exact Chn.upon_pure hC (fun F hF => by (go_simp <;> exact hF)), ?_⟩
          simp only [Act.put, List.setIfInBounds_toArray, List.set_cons_succ, List.set_cons_zero]
          refine ⟨fun j w1 hj hC => by exact Chn.upon_pure hC (fun F hF => by (go_simp <;> exact hF)), ?_⟩
          simp only [Act.put, List.setIfInBounds_toArray, List.set_cons_succ, List.set_cons_zero]
          refine ⟨fun j w1 hj hC => by exact Chn.upon_pure hC (fun F hF => by (go_simp <;> exact hF)), ?_⟩
          simp only [Act.put, List.setIfInBounds_toArray, List.set_cons_succ, List.set_cons_zero]
          refine ⟨fun j w1 hj hC => by exact Chn.upon_pure hC (fun F hF => by (go_simp <;> exact hF)), ?_⟩
          simp only [Act.put, List.setIfInBounds_toArray, List.set_cons_succ, List.set_cons_zero]
          refine ⟨fun j w1 hj hC => by exact Chn.upon_pure hC (fun F hF => by (go_simp <;> exact hF)), ?_⟩
          simp only [Act.put, List.setIfInBounds_toArray, List.set_cons_succ, List.set_cons_zero]
          refine ⟨fun j w1 hj hC => by
            have z : w1.cell? ⟨(ra.add (i * 4)).block, (ra.add (i * 4)).off + 2, none⟩ = some (vI o.s) := cell_keeps (wrC_below (Nat.le_trans hj (by decide)) hC) (hc5 2 _ rfl)
            exact Chn.upon_pure hC (fun F hF => by (go_simp <;> exact hF)), ?_⟩
          simp only [Act.put, List.setIfInBounds_toArray, List.set_cons_succ, List.set_cons_zero]
          refine ⟨fun w1 hC => by
            exact Chn.upon_call (C := WrC h cc n (writeT n T o.c (sysV o.s) o.v) w5 1) (sys_c o.s hwf.s w1) (fun e2 w2 hh => ⟨hh.1, below_then hC (Nat.le_refl _) hh.2⟩) (fun F hF => by (go_simp <;> exact hF)), ?_⟩
          simp only [Act.put, List.setIfInBounds_toArray, List.set_cons_succ, List.set_cons_zero]
          refine ⟨fun j w1 hj hC => by exact Chn.upon_pure hC (fun F hF => by (go_simp <;> exact hF)), ?_⟩
          simp only [Act.put, List.setIfInBounds_toArray, List.set_cons_succ, List.set_cons_zero]
          refine ⟨fun j w1 hj hC => by exact Chn.upon_pure hC (fun F hF => by (go_simp <;> exact hF)), ?_⟩
          simp only [Act.put, List.setIfInBounds_toArray, List.set_cons_succ, List.set_cons_zero]
          refine ⟨fun j w1 hj hC => by exact Chn.upon_pure hC (fun F hF => by (go_simp <;> exact hF)), ?_⟩
          simp only [Act.put, List.setIfInBounds_toArray, List.set_cons_succ, List.set_cons_zero]
          refine ⟨fun j w1 hj hC => by exact Chn.upon_pure hC (fun F hF => by (go_simp <;> exact hF)), ?_⟩
          simp only [Act.put, List.setIfInBounds_toArray, List.set_cons_succ, List.set_cons_zero]
          refine ⟨fun j w1 hj hC => by
            have z : w1.cell? ⟨(ra.add (i * 4)).block, (ra.add (i * 4)).off + 3, none⟩ = some (vU o.v) := cell_keeps (wrC_below (Nat.le_trans hj (by decide)) hC) (hc5 3 _ rfl)
            exact Chn.upon_pure hC (fun F hF => by (go_simp <;> exact hF)), ?_⟩
          simp only [Act.put, List.setIfInBounds_toArray, List.set_cons_succ, List.set_cons_zero]
          refine ⟨fun w1 hC => by
            have hq := write_c ((P5.b.at_).grow hC) o.c (sysV o.s) hwf.v
            exact Chn.upon_call (C := WrC h cc n (writeT n T o.c (sysV o.s) o.v) w5 2) hq (fun e2 w2 hh => ⟨hh.1, hh.2.1, (goes_of_below hC).trans hh.2.2 fun _ _ e => e⟩) (fun F hF => by (go_simp <;> exact hF)), ?_⟩
          simp only [Act.put, List.setIfInBounds_toArray, List.set_cons_succ, List.set_cons_zero]
          intro w6 hC
          replace hC : TT h cc n (writeT n T o.c (sysV o.s) o.v) w5 w6 := hC
          have P6 := P5.ttB hC
          go_wp2
          go_roundw
          case rel => exact ⟨i + 1, by omega, by go_num, _, by rw [write_cnt]; exact hT0.out, P6⟩
          case measure => simp [intOf]; omega
        · go_wp2
          go_roundw
          case rel => exact ⟨i + 1, by omega, by go_num, T, hT0, P⟩
          case measure => simp [intOf]; omega
      · have hok := P.a.at_.ok
        have P0 : PW W.heap.size W g cb h cc n (T.tick 0) T wr := by rw [tick_zero hok]; exact P
        have hend2 : ((i : Int) < ss.length ∧ ¬ (i : Int) < 60) ∨ ¬ (i : Int) < ss.length := by omega
        replace hT0 := show Hid _ from hT0
        clear P hend hok
        rcases hend2 with ⟨h1, h2⟩ | h1
        all_goals go_upto_region 16 with fail
        all_goals
          clear h1
          rw [ev2]
          go_wp2
          go_loopw [13, 14] (fun s13 s14 wr => ∃ (i : Nat) (all : Int), i ≤ zs.length ∧ s14 = .int .i64 i ∧ s13 = .int .u64 all ∧ U64 all ∧ Hid (PW W.heap.size W g cb h cc n (T.tick all) T wr)) (fun s13 s14 _ => zs.length - (intOf s14).toNat)
          case atStart => exact ⟨0, 0, Nat.zero_le _, rfl, rfl, by unfold U64; decide, P0⟩
          case round =>
            clear P0
            obtain ⟨i, all, hi, rfl, rfl, hall, hM⟩ := hrel
            have P := hM.out
            clear hM
            by_cases hin : (i : Int) < zs.length
            · have hs := List.getElem?_eq_getElem (l := zs) (i := i) (by omega)
              generalize zs[i] = x at hs
              obtain ⟨ra, cap2, ev', hz, hlt⟩ := R2.at P.a.below hs
              rw [ev2] at ev'
              cases ev'
              have hx := R2.wf x (List.mem_of_getElem? hs)
              have hti := tick_c P.a.at_ x
              rw [tick_next] at hti
              have e1 : IntKind.u64.wrap (all + x) = (all + x) % 18446744073709551616 := by rw [IntKind.wrap_u64]
              replace e1 := show Hid _ from e1
              go_wp2_with (first | (go_at_call 15; refine hti.mono ?_; rintro e w5 ⟨rfl, hC⟩; dsimp only; replace P := P.ttA hC; clear hC hti; have hz2 : w5.cell? (ra.add i) = some (vU x) := (by obtain ⟨ra3, cap3, ev3, hz3, _⟩ := R2.at P.a.below hs; rw [ev2] at ev3; cases ev3; exact hz3)))
              go_roundw
              case rel => exact ⟨i + 1, (all + x) % 18446744073709551616, by omega, by go_num, by rw [e1.out], ⟨by omega, by omega⟩, P⟩
              case measure => simp [intOf]; omega
            · have hti := tick_c P.b.at_ all
              go_upto_region 22 with (first | (go_at_call 15; refine hti.mono ?_; rintro e w5 ⟨rfl, hC⟩; dsimp only))
              replace P := P.ttB hC
              clear hti hC hin hi
              go_wp2
              go_loopw [15, 16, 17, 18, 19] (fun s15 s16 s17 s18 s19 wr => ∃ i : Nat, i ≤ n ∧ s15 = .int .i64 i ∧ Hid (PW W.heap.size W g cb h cc n (T.tick all) (T.tick all) wr)) (fun s15 s16 s17 s18 s19 _ => n - (intOf s15).toNat)
              case atStart => exact ⟨0, Nat.zero_le _, rfl, P⟩
              case round =>
                clear P
                obtain ⟨i, hi, rfl, hM⟩ := hrel
                have P := hM.out
                clear hM
                by_cases hin : (i : Int) < n
                · have r1 := read_c P.a.at_ i 24345
                  have r2 := fun w' (hB : Below wr.heap.size wr w') => read_c (P.b.at_.grow hB) i 24345
                  have g1 := fun w' (hB : Below wr.heap.size wr w') => thigh_c (P.a.at_.grow hB) i
                  have g2 := fun w' (hB : Below wr.heap.size wr w') => thigh_c (P.b.at_.grow hB) i
                  generalize readV n (T.tick all) i 24345 = rv at r1 r2
                  generalize readE n i 24345 = re at r1 r2
                  have hP := show Hid _ from P
                  clear P
                  cases highV n (T.tick all) i
                  all_goals
                    go_upto_region 26 with (first | (go_at_call 11; refine r1.mono ?_; rintro e w6 ⟨rfl, hB6⟩; dsimp only))
                    replace r2 := r2 w6 hB6
                    go_upto_region 27 with (first | (go_at_call 11; refine r2.mono ?_; rintro e w7 ⟨rfl, hB7⟩; dsimp only))
                    have B7 := below_then hB6 (Nat.le_refl _) hB7
                    replace g1 := g1 w7 B7
                    replace B7 := show Hid _ from B7
                    clear r1 r2 hB6 hB7
                    go_wp2_with (first | (go_at_call 17; refine g1.mono ?_; rintro e w8 ⟨rfl, hB8⟩; dsimp only; have B8 := below_then B7.out (Nat.le_refl _) hB8; clear g1 hB8; replace g2 := g2 w8 B8; replace B8 := show Hid _ from B8) | (go_at_call 17; refine g2.mono ?_; rintro e w9 ⟨rfl, hB9⟩; dsimp only; have B9 := below_then B8.out (Nat.le_refl _) hB9; clear g2 hB9; replace B9 := show Hid _ from B9))
                    go_roundw
                    case rel => exact ⟨i + 1, by omega, by go_num, hP.out.grow B9.out⟩
                    case measure => simp [intOf]; omega
                · have c1 := count_c P.a.at_
                  have c2 := count_c P.b.at_
                  have e0 : (T.tick all).cnt = all := by
                    show (T.cnt + all) % 18446744073709551616 = all
                    rw [hT0.out]
                    have := hall.1
                    have := hall.2
                    omega
                  rw [e0] at c1 c2
                  clear e0
                  go_wp2_with (first | (go_at_call 20; refine c1.mono ?_; rintro e w' ⟨rfl, rfl⟩; dsimp only) | (go_at_call 20; refine c2.mono ?_; rintro e w' ⟨rfl, rfl⟩; dsimp only))
                  go_ret
                  exact ⟨rfl, P.a.below⟩
end Go.Proofs.Ytebkpmplhpebbaa
