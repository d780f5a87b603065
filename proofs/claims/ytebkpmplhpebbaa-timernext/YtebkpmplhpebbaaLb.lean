/- TimerNext's walk. -/
import Derived.Test.YtebkpmplhpebbaaKc
namespace Go.Proofs.Ytebkpmplhpebbaa
open Go.RowKit
open Tim
set_option linter.unusedVariables false
set_option linter.unusedSimpArgs false
set_option maxRecDepth 8000

/-- A timer beyond B, and a row of eight answers beside it. -/
structure NW (B : Nat) (W : World) (g cb n : Nat) (T : Tm) (b : Nat) (f : Nat → Bool) (w : World) : Prop where
  kw : KW B W g cb n T w
  row : ∃ C, w.heap[b]? = some (.cells C 49) ∧ C.size = 8 ∧ ∀ j, j < 8 → C[j]? = some (.bool (f j))
  nf : ¬ TFoot g cb b
  hb : B ≤ b
section
variable {B : Nat} {W : World} {g cb n : Nat} {T : Tm} {b : Nat} {f : Nat → Bool} {w w' : World}
theorem NW.lt (H : NW B W g cb n T b f w) : b < w.heap.size := by
  obtain ⟨C, h, _⟩ := H.row
  exact lt_of_some h
theorem NW.grow (H : NW B W g cb n T b f w) (hb : Below w.heap.size w w') : NW B W g cb n T b f w' := ⟨H.kw.grow hb, by rw [hb.block _ H.lt]; exact H.row, H.nf, H.hb⟩
theorem NW.tt (H : NW B W g cb n T b f w) {U : Tm} (h : TT g cb n U w w') : NW B W g cb n U b f w' := ⟨H.kw.tt h, by rw [h.2.block _ H.lt H.nf]; exact H.row, H.nf, H.hb⟩
theorem NW.cell (H : NW B W g cb n T b f w) {j : Nat} (hj : j < 8) : w.cell? ⟨b, j, none⟩ = some (.bool (f j)) := by
  obtain ⟨C, h, _, t⟩ := H.row
  rw [cell_of_row _ _ _ _ _ _ h]; exact t j hj
theorem NW.frz (H : NW B W g cb n T b f w) (j : Nat) : w.frozen? ⟨b, j, none⟩ = false := by
  obtain ⟨C, h, _⟩ := H.row
  exact frozen_of_row _ _ _ _ _ h
theorem NW.put (H : NW B W g cb n T b f w) {i : Nat} (hi : i < 8) (x : Bool) : NW B W g cb n T b (fun j => if j = i then x else f j) (w.setCell ⟨b, i, none⟩ (.bool x)) := by
  have G := goes_setCell w (F := fun k => k = b) rfl i (.bool x)
  have hne : ∀ k, TFoot g cb k → k ≠ b := fun k hk e => H.nf (e ▸ hk)
  refine ⟨⟨H.kw.at_.keep fun k hk => G.block k (H.kw.at_.lt hk) (hne k hk), H.kw.foot, H.kw.below.trans (G.below (Nat.le_trans H.kw.le H.kw.below.size) fun k hk => by rw [hk]; exact H.hb), H.kw.le⟩, ?_, H.nf, H.hb⟩
  obtain ⟨C, h, hs, t⟩ := H.row
  refine ⟨_, heap_setCell_same w b i _ 49 _ h, by simp [hs], fun j hj => ?_⟩
  simp only [Array.getElem?_setIfInBounds]
  by_cases e : j = i
  · subst e; rw [if_pos rfl, if_pos (by omega), if_pos rfl]
  · rw [if_neg (by omega), if_neg e]; exact t j hj
end
theorem high_at {n : Nat} {T : Tm} {i : Nat} (h : i < n) : highV n T i = T.high i := by
  have e : hasB n (i : Int) = true := by
    simp only [hasB, Bool.and_eq_true, decide_eq_true_eq]
    omega
  rw [highV, e, Bool.true_and, Int.toNat_natCast]
set_option maxHeartbeats 4000000 in
theorem next_walk (cores : Int) (v1 : Value) (ss : List St4) (W : World) (hco : I64 cores) (R : Scr W v1 ss) : Calls Try.prog 4 #[vI cores, v1] W fun e w' => e = .returned (.bool true) ∧ Below W.heap.size W w' := by
  obtain ⟨ao, cap, ev⟩ := R.len
  have hkn := known_c W
  unfold I64 at hco
  by_cases h : cores < 0
  · go_enter Try.func4, Try.ntmps4
    go_upto_region 4 with (first | (go_at_call 7; refine hkn.mono ?_; rintro e w1 ⟨rfl, hB1⟩; dsimp only))
    clear hkn
    generalize hm : (-(cores + 1) : Int) = m
    have m0 : 0 ≤ m := by omega
    have m1 : m ≤ 9223372036854775807 := by omega
    clear hm
    go_upto_region 5 with fail
    generalize hn : (1 + m % 8 : Int) = q
    obtain ⟨n, rfl⟩ : ∃ n : Nat, q = n := ⟨q.toNat, by omega⟩
    have n0 : 0 < n := by omega
    have n8 : n ≤ 8 := by omega
    clear hn m0 m1
    have hnew := new_c n n0 n8 w1
    go_upto_region 8 with (first | (go_at_call 8; refine hnew.mono ?_; rintro e w2 ⟨g, rfl, cb, hG, hB, hg, hcb⟩; dsimp only))
    have K0 := newKW hG hB hg hcb
    have K : ∃ T, KW W.heap.size W g cb n T w2 := ⟨_, K0.at_, fun k hk => Nat.le_trans hB1.size (K0.foot k hk), below_then hB1 (Nat.le_refl _) hB, Nat.le_refl _⟩
    clear hnew hG hB hg hcb K0 hB1
    rw [ev]
    go_wp2
    go_loopw [8] (fun s8 wr => ∃ i : Nat, i ≤ min ss.length 60 ∧ s8 = .int .i64 i ∧ Hid (∃ T, KW W.heap.size W g cb n T wr)) (fun s8 _ => 60 - (intOf s8).toNat)
    case atStart => exact ⟨0, Nat.zero_le _, rfl, K⟩
    case round =>
      clear K
      obtain ⟨i, hi, rfl, hM⟩ := hrel
      obtain ⟨T, K⟩ := hM.out
      clear hM
      by_cases hend : (i : Int) < ss.length ∧ (i : Int) < 60
      · obtain ⟨h1, h2⟩ := hend
        have hs := List.getElem?_eq_getElem (l := ss) (i := i) (by omega)
        generalize ss[i] = o at hs
        obtain ⟨ra, cap2, ev', hc⟩ := R.at K.below hs
        rw [ev] at ev'
        cases ev'
        have hwf := R.wf o (List.mem_of_getElem? hs)
        have z0 : wr.cell? (ra.add (i * 4)) = some (vI o.k) := (hc 0 _ rfl).2
        have z3 : wr.cell? ⟨(ra.add (i * 4)).block, (ra.add (i * 4)).off + 3, none⟩ = some (vU o.v) := (hc 3 _ rfl).2
        by_cases k2 : o.k = 2
        · go_upto_region 13 with fail
          clear z0 z3
          have hst : WrC g cb n (writeT n T o.c (sysV o.s) o.v) wr 0 { wr with drawn := wr.drawn + 1 } := Rel.below_draws (n := 1) (Below.refl _ _)
          refine Chn.wp_region_chainL (WrC g cb n (writeT n T o.c (sysV o.s) o.v) wr) [11, 17] [2, 2, 2, 2, 2, 1, 2, 2, 2, 2, 0, 2, 2, 2, 2, 2, 1, 2] [ptr g 0, .slice (some ra) ss.length cap, vI i, .pointer (some (ra.add (i * 4))), .pointer (some ⟨(ra.add (i * 4)).block, (ra.add (i * 4)).off + 1, none⟩), vI o.c, .slice (some ra) ss.length cap, vI i, .pointer (some (ra.add (i * 4))), .pointer (some ⟨(ra.add (i * 4)).block, (ra.add (i * 4)).off + 2, none⟩), vI o.s, vI (sysV o.s), .slice (some ra) ss.length cap, vI i, .pointer (some (ra.add (i * 4))), .pointer (some ⟨(ra.add (i * 4)).block, (ra.add (i * 4)).off + 3, none⟩), vU o.v, vI (writeE n o.c (sysV o.s))] (by kernel_rfl) (by kernel_rfl) (by kernel_rfl) (by kernel_rfl) (by kernel_rfl) hst ?_
          clear hst
          refine ⟨fun j w1 hj hC => by exact Chn.upon_pure hC (fun F hF => by (go_simp <;> exact hF)), ?_⟩
          simp only [Act.put, List.setIfInBounds_toArray, List.set_cons_succ, List.set_cons_zero]
          refine ⟨fun j w1 hj hC => by exact Chn.upon_pure hC (fun F hF => by (go_simp <;> exact hF)), ?_⟩
          simp only [Act.put, List.setIfInBounds_toArray, List.set_cons_succ, List.set_cons_zero]
          refine ⟨fun j w1 hj hC => by exact Chn.upon_pure hC (fun F hF => by (go_simp <;> exact hF)), ?_⟩
          simp only [Act.put, List.setIfInBounds_toArray, List.set_cons_succ, List.set_cons_zero]
          refine ⟨fun j w1 hj hC => by exact Chn.upon_pure hC (fun F hF => by (go_simp <;> exact hF)), ?_⟩
          simp only [Act.put, List.setIfInBounds_toArray, List.set_cons_succ, List.set_cons_zero]
          refine ⟨fun j w1 hj hC => by exact Chn.upon_pure hC (fun F hF => by (go_simp <;> exact hF)), ?_⟩
          simp only [Act.put, List.setIfInBounds_toArray, List.set_cons_succ, List.set_cons_zero]
          refine ⟨fun j w1 hj hC => by
            have z : w1.cell? ⟨(ra.add (i * 4)).block, (ra.add (i * 4)).off + 1, none⟩ = some (vI o.c) := cell_keeps (wrC_below (Nat.le_trans hj (by decide)) hC) (hc 1 _ rfl)
            exact Chn.upon_pure hC (fun F hF => by (go_simp <;> exact hF)), ?_⟩
          simp only [Act.put, List.setIfInBounds_toArray, List.set_cons_succ, List.set_cons_zero]
          refine ⟨fun j w1 hj hC => by exact Chn.upon_pure hC (fun F hF => by (go_simp <;> exact hF)), ?_⟩
          simp only [Act.put, List.setIfInBounds_toArray, List.set_cons_succ, List.set_cons_zero]
          refine ⟨fun j w1 hj hC => by exact Chn.upon_pure hC (fun F hF => by (go_simp <;> exact hF)), ?_⟩
          simp only [Act.put, List.setIfInBounds_toArray, List.set_cons_succ, List.set_cons_zero]
          refine ⟨fun j w1 hj hC => by exact Chn.upon_pure hC (fun F hF => by (go_simp <;> exact hF)), ?_⟩
          simp only [Act.put, List.setIfInBounds_toArray, List.set_cons_succ, List.set_cons_zero]
          refine ⟨fun j w1 hj hC => by exact Chn.upon_pure hC (fun F hF => by (go_simp <;> exact hF)), ?_⟩
          simp only [Act.put, List.setIfInBounds_toArray, List.set_cons_succ, List.set_cons_zero]
          refine ⟨fun j w1 hj hC => by
            have z : w1.cell? ⟨(ra.add (i * 4)).block, (ra.add (i * 4)).off + 2, none⟩ = some (vI o.s) := cell_keeps (wrC_below (Nat.le_trans hj (by decide)) hC) (hc 2 _ rfl)
            exact Chn.upon_pure hC (fun F hF => by (go_simp <;> exact hF)), ?_⟩
          simp only [Act.put, List.setIfInBounds_toArray, List.set_cons_succ, List.set_cons_zero]
          refine ⟨fun w1 hC => by
            exact Chn.upon_call (C := WrC g cb n (writeT n T o.c (sysV o.s) o.v) wr 1) (sys_c o.s hwf.s w1) (fun e2 w2 hh => ⟨hh.1, below_then hC (Nat.le_refl _) hh.2⟩) (fun F hF => by (go_simp <;> exact hF)), ?_⟩
          simp only [Act.put, List.setIfInBounds_toArray, List.set_cons_succ, List.set_cons_zero]
          refine ⟨fun j w1 hj hC => by exact Chn.upon_pure hC (fun F hF => by (go_simp <;> exact hF)), ?_⟩
          simp only [Act.put, List.setIfInBounds_toArray, List.set_cons_succ, List.set_cons_zero]
          refine ⟨fun j w1 hj hC => by exact Chn.upon_pure hC (fun F hF => by (go_simp <;> exact hF)), ?_⟩
          simp only [Act.put, List.setIfInBounds_toArray, List.set_cons_succ, List.set_cons_zero]
          refine ⟨fun j w1 hj hC => by exact Chn.upon_pure hC (fun F hF => by (go_simp <;> exact hF)), ?_⟩
          simp only [Act.put, List.setIfInBounds_toArray, List.set_cons_succ, List.set_cons_zero]
          refine ⟨fun j w1 hj hC => by exact Chn.upon_pure hC (fun F hF => by (go_simp <;> exact hF)), ?_⟩
          simp only [Act.put, List.setIfInBounds_toArray, List.set_cons_succ, List.set_cons_zero]
          refine ⟨fun j w1 hj hC => by
            have z : w1.cell? ⟨(ra.add (i * 4)).block, (ra.add (i * 4)).off + 3, none⟩ = some (vU o.v) := cell_keeps (wrC_below (Nat.le_trans hj (by decide)) hC) (hc 3 _ rfl)
            exact Chn.upon_pure hC (fun F hF => by (go_simp <;> exact hF)), ?_⟩
          simp only [Act.put, List.setIfInBounds_toArray, List.set_cons_succ, List.set_cons_zero]
          refine ⟨fun w1 hC => by
            have hq := write_c ((K.at_).grow hC) o.c (sysV o.s) hwf.v
            exact Chn.upon_call (C := WrC g cb n (writeT n T o.c (sysV o.s) o.v) wr 2) hq (fun e2 w2 hh => ⟨hh.1, hh.2.1, (goes_of_below hC).trans hh.2.2 fun _ _ e => e⟩) (fun F hF => by (go_simp <;> exact hF)), ?_⟩
          simp only [Act.put, List.setIfInBounds_toArray, List.set_cons_succ, List.set_cons_zero]
          intro w5 hC
          replace hC : TT g cb n (writeT n T o.c (sysV o.s) o.v) wr w5 := hC
          go_wp2
          go_roundw
          case rel => exact ⟨i + 1, by omega, by go_num, _, K.tt hC⟩
          case measure => simp [intOf]; omega
        · by_cases k3 : o.k = 3
          · have hti := tick_c K.at_ o.v
            go_wp2_with (first | (go_at_call 15; refine hti.mono ?_; rintro e w5 ⟨rfl, hC⟩; dsimp only))
            go_roundw
            case rel => exact ⟨i + 1, by omega, by go_num, _, K.tt hC⟩
            case measure => simp [intOf]; omega
          · go_wp2
            go_roundw
            case rel => exact ⟨i + 1, by omega, by go_num, T, K⟩
            case measure => simp [intOf]; omega
      · have hnx := next_c K.at_
        rcases next_spec T n with ⟨e1, _⟩ | ⟨k, e1, hk, hd, _⟩
        · have x1 : nxC n T = 0 := by rw [nxC, e1]; rfl
          have x2 : nxN n T = 0 := by rw [nxN, e1]; rfl
          have x3 : nxB n T = false := by rw [nxB, e1]; rfl
          rw [x1, x2, x3] at hnx
          clear x1 x2 x3 e1 hi
          by_cases h1 : (i : Int) < ss.length
          · have h2 : ¬ (i : Int) < 60 := fun h => hend ⟨h1, h⟩
            clear hend
            go_wp2_with (first | (go_at_call 18; refine hnx.mono ?_; rintro e w5 ⟨rfl, hB⟩; dsimp only))
            go_ret
            exact ⟨rfl, (K.grow hB).below⟩
          · clear hend
            go_wp2_with (first | (go_at_call 18; refine hnx.mono ?_; rintro e w5 ⟨rfl, hB⟩; dsimp only))
            go_ret
            exact ⟨rfl, (K.grow hB).below⟩
        · have x1 : nxC n T = k := by rw [nxC, e1, if_neg (by omega)]
          have x2 : nxN n T = T.cval k - T.cnt := by rw [nxN, e1, if_neg (by omega), Int.toNat_natCast]
          have x3 : nxB n T = true := by rw [nxB, e1, decide_eq_false (by omega)]; rfl
          rw [x1, x2, x3] at hnx
          have hok := K.at_.ok
          have q1 := fun i (hi : i < n) => next_quiet hok e1 hi
          have q2 := next_then hok e1
          obtain ⟨dl, dh⟩ := (due_iff k).1 hd
          have hkf : T.high k = false := by unfold Tm.high; rw [decide_eq_false (by omega : ¬ T.cval k ≤ T.cnt), Bool.and_false]
          have hcv := hok.v1 k
          have hcn := hok.c0
          have q3 : (T.tick (T.cval k - T.cnt - 1)).tick 1 = T.tick (T.cval k - T.cnt) := by rw [tick_tick]; congr 1; omega
          obtain ⟨d, hdd⟩ : ∃ d : Int, T.cval k - T.cnt = d := ⟨_, rfl⟩
          have d1 : 1 ≤ d := by omega
          have d2 : d < 18446744073709551616 := by omega
          rw [hdd] at hnx q1 q2 q3
          replace q1 := show Hid _ from q1
          replace q2 := show Hid _ from q2
          replace q3 := show Hid _ from q3
          clear x1 x2 x3 e1 hi hok dl dh hcv hcn hdd hd
          have hend2 : ((i : Int) < ss.length ∧ ¬ (i : Int) < 60) ∨ ¬ (i : Int) < ss.length := by omega
          replace hkf := show Hid _ from hkf
          have hkn : (k : Int) < n := by omega
          have hk8 : (k : Int) < 8 := by omega
          have AA : ∀ w5, Below wr.heap.size wr w5 → NW W.heap.size W g cb n T w5.heap.size (fun j => decide (j < 0) && T.high j) (w5.alloc (.cells #[.bool false, .bool false, .bool false, .bool false, .bool false, .bool false, .bool false, .bool false] 49)) := fun w5 hB => by
            have K5 := (K.grow hB)
            refine ⟨K5.grow (below_alloc _ _), ⟨_, heap_alloc_new _ _, rfl, fun j hj => ?_⟩, fun h => by have := K5.at_.lt h; omega, Nat.le_trans K5.le K5.below.size⟩
            rw [decide_eq_false (Nat.not_lt_zero j), Bool.false_and]
            have : j = 0 ∨ j = 1 ∨ j = 2 ∨ j = 3 ∨ j = 4 ∨ j = 5 ∨ j = 6 ∨ j = 7 := by omega
            rcases this with rfl | rfl | rfl | rfl | rfl | rfl | rfl | rfl <;> rfl
          clear K hend
          rcases hend2 with ⟨h1, h2⟩ | h1
          all_goals go_upto_region 20 with (first | (go_at_call 18; refine hnx.mono ?_; rintro e w5 ⟨rfl, hB⟩; dsimp only))
          all_goals
            replace AA := AA w5 hB
            clear hnx hB h1
            generalize w5.heap.size = b at AA ⊢
            generalize World.alloc _ _ = w6 at AA ⊢
            go_wp2
            go_loopw [13] (fun s13 wr => ∃ i : Nat, i ≤ n ∧ s13 = .int .i64 i ∧ Hid (NW W.heap.size W g cb n T b (fun j => decide (j < i) && T.high j) wr)) (fun s13 _ => n - (intOf s13).toNat)
            case atStart => exact ⟨0, Nat.zero_le _, rfl, AA⟩
            case round =>
              clear AA
              obtain ⟨i, hi, rfl, hA⟩ := hrel
              have A := hA.out
              clear hA
              by_cases hin : (i : Int) < n
              · have hhi := thigh_c A.kw.at_ i
                rw [high_at (by omega)] at hhi
                have i8 : (i : Int) < 8 := by omega
                go_upto_region 22 with (first | (go_at_call 17; refine hhi.mono ?_; rintro e w7 ⟨rfl, hB⟩; dsimp only; replace A := A.grow hB; clear hB; have zc := A.cell (j := i) (by omega); have zf := A.frz i))
                have A2 := A.put (i := i) (by omega) (T.high i)
                generalize World.setCell _ _ _ = w8 at A2 ⊢
                clear A
                go_wp2
                go_roundw
                case rel =>
                  refine ⟨i + 1, by omega, by go_num, ?_⟩
                  have e : (fun j => if j = i then T.high i else (decide (j < i) && T.high j)) = fun j => decide (j < i + 1) && T.high j := by
                    funext j
                    by_cases e : j = i
                    · subst e; rw [if_pos rfl, decide_eq_true (by omega), Bool.true_and]
                    · rw [if_neg e]
                      by_cases e2 : j < i
                      · rw [decide_eq_true e2, decide_eq_true (by omega)]
                      · rw [decide_eq_false e2, decide_eq_false (by omega)]
                  rw [← e]; exact A2
                case measure => simp [intOf]; omega
              · obtain rfl : n = i := by omega
                clear hin hi
                have zk := A.cell (j := k) (by omega)
                rw [hkf.out, Bool.and_false] at zk
                have e1 : IntKind.u64.wrap (d - 1) = d - 1 := by rw [IntKind.wrap_u64]; omega
                have dz : (d == 0) = false := by rw [beq_eq_false_iff_ne]; omega
                have hti := tick_c A.kw.at_ (d - 1)
                go_upto_region 27 with (first | (go_at_call 15; refine hti.mono ?_; rintro e w7 ⟨rfl, hT⟩; dsimp only))
                replace A := A.tt hT
                clear hti zk hT
                go_wp2
                go_loopw [14] (fun s14 wr => ∃ i : Nat, i ≤ n ∧ s14 = .int .i64 i ∧ Hid (NW W.heap.size W g cb n (T.tick (d - 1)) b (fun j => decide (j < n) && T.high j) wr)) (fun s14 _ => n - (intOf s14).toNat)
                case atStart => exact ⟨0, Nat.zero_le _, rfl, A⟩
                case round =>
                  clear A
                  obtain ⟨i, hi, rfl, hA⟩ := hrel
                  have A := hA.out
                  clear hA
                  by_cases hin : (i : Int) < n
                  · have i8 : (i : Int) < 8 := by omega
                    have hhi : ∀ w1, Below wr.heap.size wr w1 → Calls Try.prog 17 #[ptr g 0, vI i] w1 fun e w' => e = .returned (.bool (T.high i)) ∧ Below w1.heap.size w1 w' := fun w1 hB => by
                      have h := thigh_c (A.grow hB).kw.at_ i
                      rw [high_at (by omega), q1.out i (by omega)] at h
                      exact h
                    have hz : ∀ w1, Below wr.heap.size wr w1 → w1.cell? ⟨b, i, none⟩ = some (.bool (T.high i)) := fun w1 hB => by
                      have h := (A.grow hB).cell (j := i) (by omega)
                      rw [decide_eq_true (by omega : i < n), Bool.true_and] at h
                      exact h
                    go_upto_region 30 with fail
                    generalize T.high i = hv at hhi hz
                    cases hv with
                    | false =>
                      refine Rel.wp_region_rel Rel.Grows (fun x => Below wr.heap.size wr x) [.inl (ptr g 0), .inl (vI i), .inl (.bool false), .inl (vI i), .inl (ptr b i), .inl (.bool false), .inl (.bool false)] (by kernel_rfl) (by kernel_rfl) (fun a b h1 h2 => below_then h1 (Nat.le_refl _) h2) ⟨rfl, rfl, rfl, Nat.le_refl _, fun _ _ => rfl⟩ ?_ ?_
                      · intro k hk
                        simp only [List.mem_cons, List.not_mem_nil, or_false] at hk
                        rcases hk with rfl | rfl | rfl | rfl | rfl | rfl | rfl <;> trivial
                      refine ⟨fun w1 hC hF => by (go_simp <;> exact Below.refl _ _), ?_⟩
                      simp only [Act.put, List.setIfInBounds_toArray, List.set_cons_succ, List.set_cons_zero]
                      refine ⟨fun w1 hC hF => by (go_simp <;> exact Below.refl _ _), ?_⟩
                      simp only [Act.put, List.setIfInBounds_toArray, List.set_cons_succ, List.set_cons_zero]
                      refine ⟨fun w1 hC hF => by
                        go_simp
                        refine (hhi w1 hC).mono ?_
                        rintro e w'' ⟨rfl, hb⟩
                        exact ⟨rfl, hb⟩, ?_⟩
                      simp only [Act.put, List.setIfInBounds_toArray, List.set_cons_succ, List.set_cons_zero]
                      refine ⟨fun w1 hC hF => by (go_simp <;> exact Below.refl _ _), ?_⟩
                      simp only [Act.put, List.setIfInBounds_toArray, List.set_cons_succ, List.set_cons_zero]
                      refine ⟨fun w1 hC hF => by (go_simp <;> exact Below.refl _ _), ?_⟩
                      simp only [Act.put, List.setIfInBounds_toArray, List.set_cons_succ, List.set_cons_zero]
                      refine ⟨fun w1 hC hF => by (have z := hz w1 hC; go_simp <;> exact Below.refl _ _), ?_⟩
                      simp only [Act.put, List.setIfInBounds_toArray, List.set_cons_succ, List.set_cons_zero]
                      refine ⟨fun w1 hC hF => by (go_simp <;> exact Below.refl _ _), ?_⟩
                      simp only [Act.put, List.setIfInBounds_toArray, List.set_cons_succ, List.set_cons_zero]
                      intro w3 hC _
                      go_wp2
                      go_roundw
                      case rel => exact ⟨i + 1, by omega, by go_num, A.grow hC⟩
                      case measure => simp [intOf]; omega
                    | true =>
                      refine Rel.wp_region_rel Rel.Grows (fun x => Below wr.heap.size wr x) [.inl (ptr g 0), .inl (vI i), .inl (.bool true), .inl (vI i), .inl (ptr b i), .inl (.bool true), .inl (.bool false)] (by kernel_rfl) (by kernel_rfl) (fun a b h1 h2 => below_then h1 (Nat.le_refl _) h2) ⟨rfl, rfl, rfl, Nat.le_refl _, fun _ _ => rfl⟩ ?_ ?_
                      · intro k hk
                        simp only [List.mem_cons, List.not_mem_nil, or_false] at hk
                        rcases hk with rfl | rfl | rfl | rfl | rfl | rfl | rfl <;> trivial
                      refine ⟨fun w1 hC hF => by (go_simp <;> exact Below.refl _ _), ?_⟩
                      simp only [Act.put, List.setIfInBounds_toArray, List.set_cons_succ, List.set_cons_zero]
                      refine ⟨fun w1 hC hF => by (go_simp <;> exact Below.refl _ _), ?_⟩
                      simp only [Act.put, List.setIfInBounds_toArray, List.set_cons_succ, List.set_cons_zero]
                      refine ⟨fun w1 hC hF => by
                        go_simp
                        refine (hhi w1 hC).mono ?_
                        rintro e w'' ⟨rfl, hb⟩
                        exact ⟨rfl, hb⟩, ?_⟩
                      simp only [Act.put, List.setIfInBounds_toArray, List.set_cons_succ, List.set_cons_zero]
                      refine ⟨fun w1 hC hF => by (go_simp <;> exact Below.refl _ _), ?_⟩
                      simp only [Act.put, List.setIfInBounds_toArray, List.set_cons_succ, List.set_cons_zero]
                      refine ⟨fun w1 hC hF => by (go_simp <;> exact Below.refl _ _), ?_⟩
                      simp only [Act.put, List.setIfInBounds_toArray, List.set_cons_succ, List.set_cons_zero]
                      refine ⟨fun w1 hC hF => by (have z := hz w1 hC; go_simp <;> exact Below.refl _ _), ?_⟩
                      simp only [Act.put, List.setIfInBounds_toArray, List.set_cons_succ, List.set_cons_zero]
                      refine ⟨fun w1 hC hF => by (go_simp <;> exact Below.refl _ _), ?_⟩
                      simp only [Act.put, List.setIfInBounds_toArray, List.set_cons_succ, List.set_cons_zero]
                      intro w3 hC _
                      go_wp2
                      go_roundw
                      case rel => exact ⟨i + 1, by omega, by go_num, A.grow hC⟩
                      case measure => simp [intOf]; omega
                  · obtain rfl : n = i := by omega
                    clear hin hi
                    have hti := tick_c A.kw.at_ 1
                    rw [q3.out] at hti
                    go_upto_region 33 with (first | (go_at_call 15; refine hti.mono ?_; rintro e w8 ⟨rfl, hT⟩; dsimp only))
                    replace A := A.tt hT
                    clear hti hT
                    go_wp2
                    go_loopw [15] (fun s15 wr => ∃ i : Nat, i ≤ k ∧ s15 = .int .i64 i ∧ Hid (NW W.heap.size W g cb n (T.tick d) b (fun j => decide (j < n) && T.high j) wr)) (fun s15 _ => k - (intOf s15).toNat)
                    case atStart => exact ⟨0, Nat.zero_le _, rfl, A⟩
                    case round =>
                      clear A
                      obtain ⟨i, hi, rfl, hA⟩ := hrel
                      have A := hA.out
                      clear hA
                      by_cases hin : (i : Int) < k
                      · have i8 : (i : Int) < 8 := by omega
                        have hhi : ∀ w1, Below wr.heap.size wr w1 → Calls Try.prog 17 #[ptr g 0, vI i] w1 fun e w' => e = .returned (.bool (T.high i)) ∧ Below w1.heap.size w1 w' := fun w1 hB => by
                          have h := thigh_c (A.grow hB).kw.at_ i
                          rw [high_at (by omega), q2.out.2 i (by omega)] at h
                          exact h
                        have hz : ∀ w1, Below wr.heap.size wr w1 → w1.cell? ⟨b, i, none⟩ = some (.bool (T.high i)) := fun w1 hB => by
                          have h := (A.grow hB).cell (j := i) (by omega)
                          rw [decide_eq_true (by omega : i < n), Bool.true_and] at h
                          exact h
                        go_upto_region 36 with fail
                        generalize T.high i = hv at hhi hz
                        cases hv with
                        | false =>
                          refine Rel.wp_region_rel Rel.Grows (fun x => Below wr.heap.size wr x) [.inl (ptr g 0), .inl (vI i), .inl (.bool false), .inl (vI i), .inl (ptr b i), .inl (.bool false), .inl (.bool false)] (by kernel_rfl) (by kernel_rfl) (fun a b h1 h2 => below_then h1 (Nat.le_refl _) h2) ⟨rfl, rfl, rfl, Nat.le_refl _, fun _ _ => rfl⟩ ?_ ?_
                          · intro k hk
                            simp only [List.mem_cons, List.not_mem_nil, or_false] at hk
                            rcases hk with rfl | rfl | rfl | rfl | rfl | rfl | rfl <;> trivial
                          refine ⟨fun w1 hC hF => by (go_simp <;> exact Below.refl _ _), ?_⟩
                          simp only [Act.put, List.setIfInBounds_toArray, List.set_cons_succ, List.set_cons_zero]
                          refine ⟨fun w1 hC hF => by (go_simp <;> exact Below.refl _ _), ?_⟩
                          simp only [Act.put, List.setIfInBounds_toArray, List.set_cons_succ, List.set_cons_zero]
                          refine ⟨fun w1 hC hF => by
                            go_simp
                            refine (hhi w1 hC).mono ?_
                            rintro e w'' ⟨rfl, hb⟩
                            exact ⟨rfl, hb⟩, ?_⟩
                          simp only [Act.put, List.setIfInBounds_toArray, List.set_cons_succ, List.set_cons_zero]
                          refine ⟨fun w1 hC hF => by (go_simp <;> exact Below.refl _ _), ?_⟩
                          simp only [Act.put, List.setIfInBounds_toArray, List.set_cons_succ, List.set_cons_zero]
                          refine ⟨fun w1 hC hF => by (go_simp <;> exact Below.refl _ _), ?_⟩
                          simp only [Act.put, List.setIfInBounds_toArray, List.set_cons_succ, List.set_cons_zero]
                          refine ⟨fun w1 hC hF => by (have z := hz w1 hC; go_simp <;> exact Below.refl _ _), ?_⟩
                          simp only [Act.put, List.setIfInBounds_toArray, List.set_cons_succ, List.set_cons_zero]
                          refine ⟨fun w1 hC hF => by (go_simp <;> exact Below.refl _ _), ?_⟩
                          simp only [Act.put, List.setIfInBounds_toArray, List.set_cons_succ, List.set_cons_zero]
                          intro w3 hC _
                          go_wp2
                          go_roundw
                          case rel => exact ⟨i + 1, by omega, by go_num, A.grow hC⟩
                          case measure => simp [intOf]; omega
                        | true =>
                          refine Rel.wp_region_rel Rel.Grows (fun x => Below wr.heap.size wr x) [.inl (ptr g 0), .inl (vI i), .inl (.bool true), .inl (vI i), .inl (ptr b i), .inl (.bool true), .inl (.bool false)] (by kernel_rfl) (by kernel_rfl) (fun a b h1 h2 => below_then h1 (Nat.le_refl _) h2) ⟨rfl, rfl, rfl, Nat.le_refl _, fun _ _ => rfl⟩ ?_ ?_
                          · intro k hk
                            simp only [List.mem_cons, List.not_mem_nil, or_false] at hk
                            rcases hk with rfl | rfl | rfl | rfl | rfl | rfl | rfl <;> trivial
                          refine ⟨fun w1 hC hF => by (go_simp <;> exact Below.refl _ _), ?_⟩
                          simp only [Act.put, List.setIfInBounds_toArray, List.set_cons_succ, List.set_cons_zero]
                          refine ⟨fun w1 hC hF => by (go_simp <;> exact Below.refl _ _), ?_⟩
                          simp only [Act.put, List.setIfInBounds_toArray, List.set_cons_succ, List.set_cons_zero]
                          refine ⟨fun w1 hC hF => by
                            go_simp
                            refine (hhi w1 hC).mono ?_
                            rintro e w'' ⟨rfl, hb⟩
                            exact ⟨rfl, hb⟩, ?_⟩
                          simp only [Act.put, List.setIfInBounds_toArray, List.set_cons_succ, List.set_cons_zero]
                          refine ⟨fun w1 hC hF => by (go_simp <;> exact Below.refl _ _), ?_⟩
                          simp only [Act.put, List.setIfInBounds_toArray, List.set_cons_succ, List.set_cons_zero]
                          refine ⟨fun w1 hC hF => by (go_simp <;> exact Below.refl _ _), ?_⟩
                          simp only [Act.put, List.setIfInBounds_toArray, List.set_cons_succ, List.set_cons_zero]
                          refine ⟨fun w1 hC hF => by (have z := hz w1 hC; go_simp <;> exact Below.refl _ _), ?_⟩
                          simp only [Act.put, List.setIfInBounds_toArray, List.set_cons_succ, List.set_cons_zero]
                          refine ⟨fun w1 hC hF => by (go_simp <;> exact Below.refl _ _), ?_⟩
                          simp only [Act.put, List.setIfInBounds_toArray, List.set_cons_succ, List.set_cons_zero]
                          intro w3 hC _
                          go_wp2
                          go_roundw
                          case rel => exact ⟨i + 1, by omega, by go_num, A.grow hC⟩
                          case measure => simp [intOf]; omega
                      · obtain rfl : k = i := by omega
                        have hhi := thigh_c A.kw.at_ k
                        rw [high_at hk, q2.out.1] at hhi
                        go_wp2_with (first | (go_at_call 17; refine hhi.mono ?_; rintro e w9 ⟨rfl, hB⟩; dsimp only))
                        go_ret
                        exact ⟨rfl, (A.grow hB).kw.below⟩
  · go_enter Try.func4, Try.ntmps4
    go_upto_region 4 with (first | (go_at_call 7; refine hkn.mono ?_; rintro e w1 ⟨rfl, hB1⟩; dsimp only))
    clear hkn
    have m0 : 0 ≤ cores := by omega
    have m1 : cores ≤ 9223372036854775807 := by omega
    generalize cores = m at m0 m1 ⊢
    clear hco h
    go_upto_region 5 with fail
    generalize hn : (1 + m % 8 : Int) = q
    obtain ⟨n, rfl⟩ : ∃ n : Nat, q = n := ⟨q.toNat, by omega⟩
    have n0 : 0 < n := by omega
    have n8 : n ≤ 8 := by omega
    clear hn m0 m1
    have hnew := new_c n n0 n8 w1
    go_upto_region 8 with (first | (go_at_call 8; refine hnew.mono ?_; rintro e w2 ⟨g, rfl, cb, hG, hB, hg, hcb⟩; dsimp only))
    have K0 := newKW hG hB hg hcb
    have K : ∃ T, KW W.heap.size W g cb n T w2 := ⟨_, K0.at_, fun k hk => Nat.le_trans hB1.size (K0.foot k hk), below_then hB1 (Nat.le_refl _) hB, Nat.le_refl _⟩
    clear hnew hG hB hg hcb K0 hB1
    rw [ev]
    go_wp2
    go_loopw [8] (fun s8 wr => ∃ i : Nat, i ≤ min ss.length 60 ∧ s8 = .int .i64 i ∧ Hid (∃ T, KW W.heap.size W g cb n T wr)) (fun s8 _ => 60 - (intOf s8).toNat)
    case atStart => exact ⟨0, Nat.zero_le _, rfl, K⟩
    case round =>
      clear K
      obtain ⟨i, hi, rfl, hM⟩ := hrel
      obtain ⟨T, K⟩ := hM.out
      clear hM
      by_cases hend : (i : Int) < ss.length ∧ (i : Int) < 60
      · obtain ⟨h1, h2⟩ := hend
        have hs := List.getElem?_eq_getElem (l := ss) (i := i) (by omega)
        generalize ss[i] = o at hs
        obtain ⟨ra, cap2, ev', hc⟩ := R.at K.below hs
        rw [ev] at ev'
        cases ev'
        have hwf := R.wf o (List.mem_of_getElem? hs)
        have z0 : wr.cell? (ra.add (i * 4)) = some (vI o.k) := (hc 0 _ rfl).2
        have z3 : wr.cell? ⟨(ra.add (i * 4)).block, (ra.add (i * 4)).off + 3, none⟩ = some (vU o.v) := (hc 3 _ rfl).2
        by_cases k2 : o.k = 2
        · go_upto_region 13 with fail
          clear z0 z3
          have hst : WrC g cb n (writeT n T o.c (sysV o.s) o.v) wr 0 { wr with drawn := wr.drawn + 1 } := Rel.below_draws (n := 1) (Below.refl _ _)
          refine Chn.wp_region_chainL (WrC g cb n (writeT n T o.c (sysV o.s) o.v) wr) [11, 17] [2, 2, 2, 2, 2, 1, 2, 2, 2, 2, 0, 2, 2, 2, 2, 2, 1, 2] [ptr g 0, .slice (some ra) ss.length cap, vI i, .pointer (some (ra.add (i * 4))), .pointer (some ⟨(ra.add (i * 4)).block, (ra.add (i * 4)).off + 1, none⟩), vI o.c, .slice (some ra) ss.length cap, vI i, .pointer (some (ra.add (i * 4))), .pointer (some ⟨(ra.add (i * 4)).block, (ra.add (i * 4)).off + 2, none⟩), vI o.s, vI (sysV o.s), .slice (some ra) ss.length cap, vI i, .pointer (some (ra.add (i * 4))), .pointer (some ⟨(ra.add (i * 4)).block, (ra.add (i * 4)).off + 3, none⟩), vU o.v, vI (writeE n o.c (sysV o.s))] (by kernel_rfl) (by kernel_rfl) (by kernel_rfl) (by kernel_rfl) (by kernel_rfl) hst ?_
          clear hst
          refine ⟨fun j w1 hj hC => by exact Chn.upon_pure hC (fun F hF => by (go_simp <;> exact hF)), ?_⟩
          simp only [Act.put, List.setIfInBounds_toArray, List.set_cons_succ, List.set_cons_zero]
          refine ⟨fun j w1 hj hC => by exact Chn.upon_pure hC (fun F hF => by (go_simp <;> exact hF)), ?_⟩
          simp only [Act.put, List.setIfInBounds_toArray, List.set_cons_succ, List.set_cons_zero]
          refine ⟨fun j w1 hj hC => by exact Chn.upon_pure hC (fun F hF => by (go_simp <;> exact hF)), ?_⟩
          simp only [Act.put, List.setIfInBounds_toArray, List.set_cons_succ, List.set_cons_zero]
          refine ⟨fun j w1 hj hC => by exact Chn.upon_pure hC (fun F hF => by (go_simp <;> exact hF)), ?_⟩
          simp only [Act.put, List.setIfInBounds_toArray, List.set_cons_succ, List.set_cons_zero]
          refine ⟨fun j w1 hj hC => by exact Chn.upon_pure hC (fun F hF => by (go_simp <;> exact hF)), ?_⟩
          simp only [Act.put, List.setIfInBounds_toArray, List.set_cons_succ, List.set_cons_zero]
          refine ⟨fun j w1 hj hC => by
            have z : w1.cell? ⟨(ra.add (i * 4)).block, (ra.add (i * 4)).off + 1, none⟩ = some (vI o.c) := cell_keeps (wrC_below (Nat.le_trans hj (by decide)) hC) (hc 1 _ rfl)
            exact Chn.upon_pure hC (fun F hF => by (go_simp <;> exact hF)), ?_⟩
          simp only [Act.put, List.setIfInBounds_toArray, List.set_cons_succ, List.set_cons_zero]
          refine ⟨fun j w1 hj hC => by exact Chn.upon_pure hC (fun F hF => by (go_simp <;> exact hF)), ?_⟩
          simp only [Act.put, List.setIfInBounds_toArray, List.set_cons_succ, List.set_cons_zero]
          refine ⟨fun j w1 hj hC => by exact Chn.upon_pure hC (fun F hF => by (go_simp <;> exact hF)), ?_⟩
          simp only [Act.put, List.setIfInBounds_toArray, List.set_cons_succ, List.set_cons_zero]
          refine ⟨fun j w1 hj hC => by exact Chn.upon_pure hC (fun F hF => by (go_simp <;> exact hF)), ?_⟩
          simp only [Act.put, List.setIfInBounds_toArray, List.set_cons_succ, List.set_cons_zero]
          refine ⟨fun j w1 hj hC => by exact Chn.upon_pure hC (fun F hF => by (go_simp <;> exact hF)), ?_⟩
          simp only [Act.put, List.setIfInBounds_toArray, List.set_cons_succ, List.set_cons_zero]
          refine ⟨fun j w1 hj hC => by
            have z : w1.cell? ⟨(ra.add (i * 4)).block, (ra.add (i * 4)).off + 2, none⟩ = some (vI o.s) := cell_keeps (wrC_below (Nat.le_trans hj (by decide)) hC) (hc 2 _ rfl)
            exact Chn.upon_pure hC (fun F hF => by (go_simp <;> exact hF)), ?_⟩
          simp only [Act.put, List.setIfInBounds_toArray, List.set_cons_succ, List.set_cons_zero]
          refine ⟨fun w1 hC => by
            exact Chn.upon_call (C := WrC g cb n (writeT n T o.c (sysV o.s) o.v) wr 1) (sys_c o.s hwf.s w1) (fun e2 w2 hh => ⟨hh.1, below_then hC (Nat.le_refl _) hh.2⟩) (fun F hF => by (go_simp <;> exact hF)), ?_⟩
          simp only [Act.put, List.setIfInBounds_toArray, List.set_cons_succ, List.set_cons_zero]
          refine ⟨fun j w1 hj hC => by exact Chn.upon_pure hC (fun F hF => by (go_simp <;> exact hF)), ?_⟩
          simp only [Act.put, List.setIfInBounds_toArray, List.set_cons_succ, List.set_cons_zero]
          refine ⟨fun j w1 hj hC => by exact Chn.upon_pure hC (fun F hF => by (go_simp <;> exact hF)), ?_⟩
          simp only [Act.put, List.setIfInBounds_toArray, List.set_cons_succ, List.set_cons_zero]
          refine ⟨fun j w1 hj hC => by exact Chn.upon_pure hC (fun F hF => by (go_simp <;> exact hF)), ?_⟩
          simp only [Act.put, List.setIfInBounds_toArray, List.set_cons_succ, List.set_cons_zero]
          refine ⟨fun j w1 hj hC => by exact Chn.upon_pure hC (fun F hF => by (go_simp <;> exact hF)), ?_⟩
          simp only [Act.put, List.setIfInBounds_toArray, List.set_cons_succ, List.set_cons_zero]
          refine ⟨fun j w1 hj hC => by
            have z : w1.cell? ⟨(ra.add (i * 4)).block, (ra.add (i * 4)).off + 3, none⟩ = some (vU o.v) := cell_keeps (wrC_below (Nat.le_trans hj (by decide)) hC) (hc 3 _ rfl)
            exact Chn.upon_pure hC (fun F hF => by (go_simp <;> exact hF)), ?_⟩
          simp only [Act.put, List.setIfInBounds_toArray, List.set_cons_succ, List.set_cons_zero]
          refine ⟨fun w1 hC => by
            have hq := write_c ((K.at_).grow hC) o.c (sysV o.s) hwf.v
            exact Chn.upon_call (C := WrC g cb n (writeT n T o.c (sysV o.s) o.v) wr 2) hq (fun e2 w2 hh => ⟨hh.1, hh.2.1, (goes_of_below hC).trans hh.2.2 fun _ _ e => e⟩) (fun F hF => by (go_simp <;> exact hF)), ?_⟩
          simp only [Act.put, List.setIfInBounds_toArray, List.set_cons_succ, List.set_cons_zero]
          intro w5 hC
          replace hC : TT g cb n (writeT n T o.c (sysV o.s) o.v) wr w5 := hC
          go_wp2
          go_roundw
          case rel => exact ⟨i + 1, by omega, by go_num, _, K.tt hC⟩
          case measure => simp [intOf]; omega
        · by_cases k3 : o.k = 3
          · have hti := tick_c K.at_ o.v
            go_wp2_with (first | (go_at_call 15; refine hti.mono ?_; rintro e w5 ⟨rfl, hC⟩; dsimp only))
            go_roundw
            case rel => exact ⟨i + 1, by omega, by go_num, _, K.tt hC⟩
            case measure => simp [intOf]; omega
          · go_wp2
            go_roundw
            case rel => exact ⟨i + 1, by omega, by go_num, T, K⟩
            case measure => simp [intOf]; omega
      · have hnx := next_c K.at_
        rcases next_spec T n with ⟨e1, _⟩ | ⟨k, e1, hk, hd, _⟩
        · have x1 : nxC n T = 0 := by rw [nxC, e1]; rfl
          have x2 : nxN n T = 0 := by rw [nxN, e1]; rfl
          have x3 : nxB n T = false := by rw [nxB, e1]; rfl
          rw [x1, x2, x3] at hnx
          clear x1 x2 x3 e1 hi
          by_cases h1 : (i : Int) < ss.length
          · have h2 : ¬ (i : Int) < 60 := fun h => hend ⟨h1, h⟩
            clear hend
            go_wp2_with (first | (go_at_call 18; refine hnx.mono ?_; rintro e w5 ⟨rfl, hB⟩; dsimp only))
            go_ret
            exact ⟨rfl, (K.grow hB).below⟩
          · clear hend
            go_wp2_with (first | (go_at_call 18; refine hnx.mono ?_; rintro e w5 ⟨rfl, hB⟩; dsimp only))
            go_ret
            exact ⟨rfl, (K.grow hB).below⟩
        · have x1 : nxC n T = k := by rw [nxC, e1, if_neg (by omega)]
          have x2 : nxN n T = T.cval k - T.cnt := by rw [nxN, e1, if_neg (by omega), Int.toNat_natCast]
          have x3 : nxB n T = true := by rw [nxB, e1, decide_eq_false (by omega)]; rfl
          rw [x1, x2, x3] at hnx
          have hok := K.at_.ok
          have q1 := fun i (hi : i < n) => next_quiet hok e1 hi
          have q2 := next_then hok e1
          obtain ⟨dl, dh⟩ := (due_iff k).1 hd
          have hkf : T.high k = false := by unfold Tm.high; rw [decide_eq_false (by omega : ¬ T.cval k ≤ T.cnt), Bool.and_false]
          have hcv := hok.v1 k
          have hcn := hok.c0
          have q3 : (T.tick (T.cval k - T.cnt - 1)).tick 1 = T.tick (T.cval k - T.cnt) := by rw [tick_tick]; congr 1; omega
          obtain ⟨d, hdd⟩ : ∃ d : Int, T.cval k - T.cnt = d := ⟨_, rfl⟩
          have d1 : 1 ≤ d := by omega
          have d2 : d < 18446744073709551616 := by omega
          rw [hdd] at hnx q1 q2 q3
          replace q1 := show Hid _ from q1
          replace q2 := show Hid _ from q2
          replace q3 := show Hid _ from q3
          clear x1 x2 x3 e1 hi hok dl dh hcv hcn hdd hd
          have hend2 : ((i : Int) < ss.length ∧ ¬ (i : Int) < 60) ∨ ¬ (i : Int) < ss.length := by omega
          replace hkf := show Hid _ from hkf
          have hkn : (k : Int) < n := by omega
          have hk8 : (k : Int) < 8 := by omega
          have AA : ∀ w5, Below wr.heap.size wr w5 → NW W.heap.size W g cb n T w5.heap.size (fun j => decide (j < 0) && T.high j) (w5.alloc (.cells #[.bool false, .bool false, .bool false, .bool false, .bool false, .bool false, .bool false, .bool false] 49)) := fun w5 hB => by
            have K5 := (K.grow hB)
            refine ⟨K5.grow (below_alloc _ _), ⟨_, heap_alloc_new _ _, rfl, fun j hj => ?_⟩, fun h => by have := K5.at_.lt h; omega, Nat.le_trans K5.le K5.below.size⟩
            rw [decide_eq_false (Nat.not_lt_zero j), Bool.false_and]
            have : j = 0 ∨ j = 1 ∨ j = 2 ∨ j = 3 ∨ j = 4 ∨ j = 5 ∨ j = 6 ∨ j = 7 := by omega
            rcases this with rfl | rfl | rfl | rfl | rfl | rfl | rfl | rfl <;> rfl
          clear K hend
          rcases hend2 with ⟨h1, h2⟩ | h1
          all_goals go_upto_region 20 with (first | (go_at_call 18; refine hnx.mono ?_; rintro e w5 ⟨rfl, hB⟩; dsimp only))
          all_goals
            replace AA := AA w5 hB
            clear hnx hB h1
            generalize w5.heap.size = b at AA ⊢
            generalize World.alloc _ _ = w6 at AA ⊢
            go_wp2
            go_loopw [13] (fun s13 wr => ∃ i : Nat, i ≤ n ∧ s13 = .int .i64 i ∧ Hid (NW W.heap.size W g cb n T b (fun j => decide (j < i) && T.high j) wr)) (fun s13 _ => n - (intOf s13).toNat)
            case atStart => exact ⟨0, Nat.zero_le _, rfl, AA⟩
            case round =>
              clear AA
              obtain ⟨i, hi, rfl, hA⟩ := hrel
              have A := hA.out
              clear hA
              by_cases hin : (i : Int) < n
              · have hhi := thigh_c A.kw.at_ i
                rw [high_at (by omega)] at hhi
                have i8 : (i : Int) < 8 := by omega
                go_upto_region 22 with (first | (go_at_call 17; refine hhi.mono ?_; rintro e w7 ⟨rfl, hB⟩; dsimp only; replace A := A.grow hB; clear hB; have zc := A.cell (j := i) (by omega); have zf := A.frz i))
                have A2 := A.put (i := i) (by omega) (T.high i)
                generalize World.setCell _ _ _ = w8 at A2 ⊢
                clear A
                go_wp2
                go_roundw
                case rel =>
                  refine ⟨i + 1, by omega, by go_num, ?_⟩
                  have e : (fun j => if j = i then T.high i else (decide (j < i) && T.high j)) = fun j => decide (j < i + 1) && T.high j := by
                    funext j
                    by_cases e : j = i
                    · subst e; rw [if_pos rfl, decide_eq_true (by omega), Bool.true_and]
                    · rw [if_neg e]
                      by_cases e2 : j < i
                      · rw [decide_eq_true e2, decide_eq_true (by omega)]
                      · rw [decide_eq_false e2, decide_eq_false (by omega)]
                  rw [← e]; exact A2
                case measure => simp [intOf]; omega
              · obtain rfl : n = i := by omega
                clear hin hi
                have zk := A.cell (j := k) (by omega)
                rw [hkf.out, Bool.and_false] at zk
                have e1 : IntKind.u64.wrap (d - 1) = d - 1 := by rw [IntKind.wrap_u64]; omega
                have dz : (d == 0) = false := by rw [beq_eq_false_iff_ne]; omega
                have hti := tick_c A.kw.at_ (d - 1)
                go_upto_region 27 with (first | (go_at_call 15; refine hti.mono ?_; rintro e w7 ⟨rfl, hT⟩; dsimp only))
                replace A := A.tt hT
                clear hti zk hT
                go_wp2
                go_loopw [14] (fun s14 wr => ∃ i : Nat, i ≤ n ∧ s14 = .int .i64 i ∧ Hid (NW W.heap.size W g cb n (T.tick (d - 1)) b (fun j => decide (j < n) && T.high j) wr)) (fun s14 _ => n - (intOf s14).toNat)
                case atStart => exact ⟨0, Nat.zero_le _, rfl, A⟩
                case round =>
                  clear A
                  obtain ⟨i, hi, rfl, hA⟩ := hrel
                  have A := hA.out
                  clear hA
                  by_cases hin : (i : Int) < n
                  · have i8 : (i : Int) < 8 := by omega
                    have hhi : ∀ w1, Below wr.heap.size wr w1 → Calls Try.prog 17 #[ptr g 0, vI i] w1 fun e w' => e = .returned (.bool (T.high i)) ∧ Below w1.heap.size w1 w' := fun w1 hB => by
                      have h := thigh_c (A.grow hB).kw.at_ i
                      rw [high_at (by omega), q1.out i (by omega)] at h
                      exact h
                    have hz : ∀ w1, Below wr.heap.size wr w1 → w1.cell? ⟨b, i, none⟩ = some (.bool (T.high i)) := fun w1 hB => by
                      have h := (A.grow hB).cell (j := i) (by omega)
                      rw [decide_eq_true (by omega : i < n), Bool.true_and] at h
                      exact h
                    go_upto_region 30 with fail
                    generalize T.high i = hv at hhi hz
                    cases hv with
                    | false =>
                      refine Rel.wp_region_rel Rel.Grows (fun x => Below wr.heap.size wr x) [.inl (ptr g 0), .inl (vI i), .inl (.bool false), .inl (vI i), .inl (ptr b i), .inl (.bool false), .inl (.bool false)] (by kernel_rfl) (by kernel_rfl) (fun a b h1 h2 => below_then h1 (Nat.le_refl _) h2) ⟨rfl, rfl, rfl, Nat.le_refl _, fun _ _ => rfl⟩ ?_ ?_
                      · intro k hk
                        simp only [List.mem_cons, List.not_mem_nil, or_false] at hk
                        rcases hk with rfl | rfl | rfl | rfl | rfl | rfl | rfl <;> trivial
                      refine ⟨fun w1 hC hF => by (go_simp <;> exact Below.refl _ _), ?_⟩
                      simp only [Act.put, List.setIfInBounds_toArray, List.set_cons_succ, List.set_cons_zero]
                      refine ⟨fun w1 hC hF => by (go_simp <;> exact Below.refl _ _), ?_⟩
                      simp only [Act.put, List.setIfInBounds_toArray, List.set_cons_succ, List.set_cons_zero]
                      refine ⟨fun w1 hC hF => by
                        go_simp
                        refine (hhi w1 hC).mono ?_
                        rintro e w'' ⟨rfl, hb⟩
                        exact ⟨rfl, hb⟩, ?_⟩
                      simp only [Act.put, List.setIfInBounds_toArray, List.set_cons_succ, List.set_cons_zero]
                      refine ⟨fun w1 hC hF => by (go_simp <;> exact Below.refl _ _), ?_⟩
                      simp only [Act.put, List.setIfInBounds_toArray, List.set_cons_succ, List.set_cons_zero]
                      refine ⟨fun w1 hC hF => by (go_simp <;> exact Below.refl _ _), ?_⟩
                      simp only [Act.put, List.setIfInBounds_toArray, List.set_cons_succ, List.set_cons_zero]
                      refine ⟨fun w1 hC hF => by (have z := hz w1 hC; go_simp <;> exact Below.refl _ _), ?_⟩
                      simp only [Act.put, List.setIfInBounds_toArray, List.set_cons_succ, List.set_cons_zero]
                      refine ⟨fun w1 hC hF => by (go_simp <;> exact Below.refl _ _), ?_⟩
                      simp only [Act.put, List.setIfInBounds_toArray, List.set_cons_succ, List.set_cons_zero]
                      intro w3 hC _
                      go_wp2
                      go_roundw
                      case rel => exact ⟨i + 1, by omega, by go_num, A.grow hC⟩
                      case measure => simp [intOf]; omega
                    | true =>
                      refine Rel.wp_region_rel Rel.Grows (fun x => Below wr.heap.size wr x) [.inl (ptr g 0), .inl (vI i), .inl (.bool true), .inl (vI i), .inl (ptr b i), .inl (.bool true), .inl (.bool false)] (by kernel_rfl) (by kernel_rfl) (fun a b h1 h2 => below_then h1 (Nat.le_refl _) h2) ⟨rfl, rfl, rfl, Nat.le_refl _, fun _ _ => rfl⟩ ?_ ?_
                      · intro k hk
                        simp only [List.mem_cons, List.not_mem_nil, or_false] at hk
                        rcases hk with rfl | rfl | rfl | rfl | rfl | rfl | rfl <;> trivial
                      refine ⟨fun w1 hC hF => by (go_simp <;> exact Below.refl _ _), ?_⟩
                      simp only [Act.put, List.setIfInBounds_toArray, List.set_cons_succ, List.set_cons_zero]
                      refine ⟨fun w1 hC hF => by (go_simp <;> exact Below.refl _ _), ?_⟩
                      simp only [Act.put, List.setIfInBounds_toArray, List.set_cons_succ, List.set_cons_zero]
                      refine ⟨fun w1 hC hF => by
                        go_simp
                        refine (hhi w1 hC).mono ?_
                        rintro e w'' ⟨rfl, hb⟩
                        exact ⟨rfl, hb⟩, ?_⟩
                      simp only [Act.put, List.setIfInBounds_toArray, List.set_cons_succ, List.set_cons_zero]
                      refine ⟨fun w1 hC hF => by (go_simp <;> exact Below.refl _ _), ?_⟩
                      simp only [Act.put, List.setIfInBounds_toArray, List.set_cons_succ, List.set_cons_zero]
                      refine ⟨fun w1 hC hF => by (go_simp <;> exact Below.refl _ _), ?_⟩
                      simp only [Act.put, List.setIfInBounds_toArray, List.set_cons_succ, List.set_cons_zero]
                      refine ⟨fun w1 hC hF => by (have z := hz w1 hC; go_simp <;> exact Below.refl _ _), ?_⟩
                      simp only [Act.put, List.setIfInBounds_toArray, List.set_cons_succ, List.set_cons_zero]
                      refine ⟨fun w1 hC hF => by (go_simp <;> exact Below.refl _ _), ?_⟩
                      simp only [Act.put, List.setIfInBounds_toArray, List.set_cons_succ, List.set_cons_zero]
                      intro w3 hC _
                      go_wp2
                      go_roundw
                      case rel => exact ⟨i + 1, by omega, by go_num, A.grow hC⟩
                      case measure => simp [intOf]; omega
                  · obtain rfl : n = i := by omega
                    clear hin hi
                    have hti := tick_c A.kw.at_ 1
                    rw [q3.out] at hti
                    go_upto_region 33 with (first | (go_at_call 15; refine hti.mono ?_; rintro e w8 ⟨rfl, hT⟩; dsimp only))
                    replace A := A.tt hT
                    clear hti hT
                    go_wp2
                    go_loopw [15] (fun s15 wr => ∃ i : Nat, i ≤ k ∧ s15 = .int .i64 i ∧ Hid (NW W.heap.size W g cb n (T.tick d) b (fun j => decide (j < n) && T.high j) wr)) (fun s15 _ => k - (intOf s15).toNat)
                    case atStart => exact ⟨0, Nat.zero_le _, rfl, A⟩
                    case round =>
                      clear A
                      obtain ⟨i, hi, rfl, hA⟩ := hrel
                      have A := hA.out
                      clear hA
                      by_cases hin : (i : Int) < k
                      · have i8 : (i : Int) < 8 := by omega
                        have hhi : ∀ w1, Below wr.heap.size wr w1 → Calls Try.prog 17 #[ptr g 0, vI i] w1 fun e w' => e = .returned (.bool (T.high i)) ∧ Below w1.heap.size w1 w' := fun w1 hB => by
                          have h := thigh_c (A.grow hB).kw.at_ i
                          rw [high_at (by omega), q2.out.2 i (by omega)] at h
                          exact h
                        have hz : ∀ w1, Below wr.heap.size wr w1 → w1.cell? ⟨b, i, none⟩ = some (.bool (T.high i)) := fun w1 hB => by
                          have h := (A.grow hB).cell (j := i) (by omega)
                          rw [decide_eq_true (by omega : i < n), Bool.true_and] at h
                          exact h
                        go_upto_region 36 with fail
                        generalize T.high i = hv at hhi hz
                        cases hv with
                        | false =>
                          refine Rel.wp_region_rel Rel.Grows (fun x => Below wr.heap.size wr x) [.inl (ptr g 0), .inl (vI i), .inl (.bool false), .inl (vI i), .inl (ptr b i), .inl (.bool false), .inl (.bool false)] (by kernel_rfl) (by kernel_rfl) (fun a b h1 h2 => below_then h1 (Nat.le_refl _) h2) ⟨rfl, rfl, rfl, Nat.le_refl _, fun _ _ => rfl⟩ ?_ ?_
                          · intro k hk
                            simp only [List.mem_cons, List.not_mem_nil, or_false] at hk
                            rcases hk with rfl | rfl | rfl | rfl | rfl | rfl | rfl <;> trivial
                          refine ⟨fun w1 hC hF => by (go_simp <;> exact Below.refl _ _), ?_⟩
                          simp only [Act.put, List.setIfInBounds_toArray, List.set_cons_succ, List.set_cons_zero]
                          refine ⟨fun w1 hC hF => by (go_simp <;> exact Below.refl _ _), ?_⟩
                          simp only [Act.put, List.setIfInBounds_toArray, List.set_cons_succ, List.set_cons_zero]
                          refine ⟨fun w1 hC hF => by
                            go_simp
                            refine (hhi w1 hC).mono ?_
                            rintro e w'' ⟨rfl, hb⟩
                            exact ⟨rfl, hb⟩, ?_⟩
                          simp only [Act.put, List.setIfInBounds_toArray, List.set_cons_succ, List.set_cons_zero]
                          refine ⟨fun w1 hC hF => by (go_simp <;> exact Below.refl _ _), ?_⟩
                          simp only [Act.put, List.setIfInBounds_toArray, List.set_cons_succ, List.set_cons_zero]
                          refine ⟨fun w1 hC hF => by (go_simp <;> exact Below.refl _ _), ?_⟩
                          simp only [Act.put, List.setIfInBounds_toArray, List.set_cons_succ, List.set_cons_zero]
                          refine ⟨fun w1 hC hF => by (have z := hz w1 hC; go_simp <;> exact Below.refl _ _), ?_⟩
                          simp only [Act.put, List.setIfInBounds_toArray, List.set_cons_succ, List.set_cons_zero]
                          refine ⟨fun w1 hC hF => by (go_simp <;> exact Below.refl _ _), ?_⟩
                          simp only [Act.put, List.setIfInBounds_toArray, List.set_cons_succ, List.set_cons_zero]
                          intro w3 hC _
                          go_wp2
                          go_roundw
                          case rel => exact ⟨i + 1, by omega, by go_num, A.grow hC⟩
                          case measure => simp [intOf]; omega
                        | true =>
                          refine Rel.wp_region_rel Rel.Grows (fun x => Below wr.heap.size wr x) [.inl (ptr g 0), .inl (vI i), .inl (.bool true), .inl (vI i), .inl (ptr b i), .inl (.bool true), .inl (.bool false)] (by kernel_rfl) (by kernel_rfl) (fun a b h1 h2 => below_then h1 (Nat.le_refl _) h2) ⟨rfl, rfl, rfl, Nat.le_refl _, fun _ _ => rfl⟩ ?_ ?_
                          · intro k hk
                            simp only [List.mem_cons, List.not_mem_nil, or_false] at hk
                            rcases hk with rfl | rfl | rfl | rfl | rfl | rfl | rfl <;> trivial
                          refine ⟨fun w1 hC hF => by (go_simp <;> exact Below.refl _ _), ?_⟩
                          simp only [Act.put, List.setIfInBounds_toArray, List.set_cons_succ, List.set_cons_zero]
                          refine ⟨fun w1 hC hF => by (go_simp <;> exact Below.refl _ _), ?_⟩
                          simp only [Act.put, List.setIfInBounds_toArray, List.set_cons_succ, List.set_cons_zero]
                          refine ⟨fun w1 hC hF => by
                            go_simp
                            refine (hhi w1 hC).mono ?_
                            rintro e w'' ⟨rfl, hb⟩
                            exact ⟨rfl, hb⟩, ?_⟩
                          simp only [Act.put, List.setIfInBounds_toArray, List.set_cons_succ, List.set_cons_zero]
                          refine ⟨fun w1 hC hF => by (go_simp <;> exact Below.refl _ _), ?_⟩
                          simp only [Act.put, List.setIfInBounds_toArray, List.set_cons_succ, List.set_cons_zero]
                          refine ⟨fun w1 hC hF => by (go_simp <;> exact Below.refl _ _), ?_⟩
                          simp only [Act.put, List.setIfInBounds_toArray, List.set_cons_succ, List.set_cons_zero]
                          refine ⟨fun w1 hC hF => by (have z := hz w1 hC; go_simp <;> exact Below.refl _ _), ?_⟩
                          simp only [Act.put, List.setIfInBounds_toArray, List.set_cons_succ, List.set_cons_zero]
                          refine ⟨fun w1 hC hF => by (go_simp <;> exact Below.refl _ _), ?_⟩
                          simp only [Act.put, List.setIfInBounds_toArray, List.set_cons_succ, List.set_cons_zero]
                          intro w3 hC _
                          go_wp2
                          go_roundw
                          case rel => exact ⟨i + 1, by omega, by go_num, A.grow hC⟩
                          case measure => simp [intOf]; omega
                      · obtain rfl : k = i := by omega
                        have hhi := thigh_c A.kw.at_ k
                        rw [high_at hk, q2.out.1] at hhi
                        go_wp2_with (first | (go_at_call 17; refine hhi.mono ?_; rintro e w9 ⟨rfl, hB⟩; dsimp only))
                        go_ret
                        exact ⟨rfl, (A.grow hB).kw.below⟩
end Go.Proofs.Ytebkpmplhpebbaa
