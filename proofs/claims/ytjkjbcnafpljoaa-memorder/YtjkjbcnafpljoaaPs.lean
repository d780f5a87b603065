/- MemOrder's walk, whole. -/
import Derived.Test.YtjkjbcnafpljoaaPr
namespace Go.Proofs.Ytjkjbcnafpljoaa
open Go.RowKit
set_option linter.unusedVariables false
set_option linter.unusedSimpArgs false

set_option maxRecDepth 8000 in
set_option maxHeartbeats 8000000 in
theorem memOrder_walk (v : Value) (zs : List Int) (depth : Int) (w : World) (R : Raw w v zs) (hdep : I64 depth) : Calls Try.prog 6 #[v, vI depth] w fun e w' => e = .returned (.bool true) ∧ Below w.heap.size w w' := by
  obtain ⟨p0, p1⟩ := pick_in depth (n := 6) (by decide)
  generalize hc : pickV depth 6 = d at p0 p1
  have hB : newB ((4 : Nat) : Int) ((3 : Nat) : Int) (1 + d) = true := by simp only [newB, Bool.and_eq_true, decide_eq_true_eq]; omega
  have A0 := all_new hB
  have w1 : IntKind.i64.wrap (1 + d) = 1 + d := by rw [IntKind.wrap_i64]; omega
  replace hc := show Hid _ from hc
  go_enter Try.func6, Try.ntmps6
  go_upto_region 9 with (first | (go_at_call 9; refine (known_c _).mono ?_; rintro e x1 ⟨rfl, hb1⟩; dsimp only) | (go_at_call 18; refine (pick_c depth 6 _ hdep (by decide) (by decide)).mono ?_; rintro e x' ⟨rfl, rfl⟩; dsimp only; rw [hc.out]) | (go_at_call 23; refine (made_c (1 + d) _ (by omega) (by omega)).mono ?_; rintro e x2 ⟨g, rfl, H⟩; dsimp only) | (go_at_call 24; refine (play_c H A0.ok rfl rfl rfl v zs (R.grow hb1)).mono ?_; rintro e x3 ⟨rfl, i, hi, P⟩; dsimp only))
  have F0 : Fin (plS (newS 4 3 (1 + d)) zs i) 0 := by
    obtain ⟨_, Z, hN⟩ := pl_ok A0.ok zs i
    exact ⟨A0.pl zs i, Z.b, Z.w, Nat.le_trans hN (by show 0 + i ≤ _; omega), fun k hk => by omega⟩
  generalize plS (newS 4 3 (1 + d)) zs i = T at P F0
  clear H A0 hB w1
  go_wp2
  go_loopw [9] (fun s9 wr => ∃ c : Nat, c ≤ 3 ∧ s9 = .int .i64 c ∧ Hid (∃ X, Fin X c ∧ LR x' g X [] wr)) (fun s9 _ => 3 - (intOf s9).toNat)
  case atStart => exact ⟨0, by omega, rfl, T, F0, P⟩
  case round =>
    obtain ⟨c, hc1, rfl, hH⟩ := hrel
    obtain ⟨X, F, Q⟩ := hH.out
    clear hH P F0
    by_cases hlt : (c : Int) < 3
    · have hcb : hasCoreB X c = true := by simp only [hasCoreB, F.b, Bool.and_eq_true, decide_eq_true_eq]; omega
      have F2 := F.next (by omega)
      have hs : X.stamps.length < 1000000 := by have := F.s; omega
      have hm := List.mem_of_getElem? (core_buf hcb)
      have hinc := F.all.inc _ hm
      have hpos : ∀ s ∈ bufOf X c, 1 ≤ s.t := fun s hs => (F.all.ok.held _ hm s hs).2.1
      have hln : (bufOf X c).length ≤ 32 := by have h1 := F.all.ok.lens _ hm; have h2 := F.all.ok.d2; omega
      have hhl : heldL (flushS X c) c = [] := by rw [heldL, hasCore_len (flush_len X c).1, hcb]; exact flush_buf hcb
      generalize hB : bufOf X c = B at hinc hpos hln
      generalize hX : flushS X c = Y at F2 hhl
      have OX := F.all.ok
      clear F
      go_upto_region 14 with (go_at_call 25; refine (flush_l Q OX c hs hcb).mono ?_; rintro e y1 ⟨lv, rfl, Q1⟩; dsimp only)
      rw [hX, hB] at Q1
      obtain ⟨la, lc, el, _, _⟩ := own_len (Q1.row List.mem_cons_self)
      subst el
      go_wp2_with (go_at_call 29; refine (held_l Q1 F2.all.ok c).mono ?_; rintro e y2 ⟨kv, rfl, Q2⟩; rw [hhl] at Q2; obtain ⟨ka, kc, rfl, _, _⟩ := own_len (Q2.row List.mem_cons_self); dsimp only)
      replace Q2 := Q2.less (R' := [(.slice la B.length lc, B)]) (fun p hp => List.mem_cons_of_mem _ hp)
      clear Q Q1
      go_loopw [10, 13] (fun s10 s13 wr => ∃ j : Nat, j ≤ B.length ∧ s13 = .int .i64 j ∧ s10 = .int .i64 (lastT B j) ∧ Hid (LR x' g Y [(.slice la B.length lc, B)] wr)) (fun _ s13 _ => B.length - (intOf s13).toNat)
      case atStart => exact ⟨0, Nat.zero_le _, rfl, rfl, Q2⟩
      case round =>
        obtain ⟨j, hj1, rfl, rfl, hH⟩ := hrel
        have Q3 := hH.out
        clear hH Q2
        by_cases hj : (j : Int) < B.length
        · have hj2 : j < B.length := by omega
          have hx : B[j]? = some B[j] := List.getElem?_eq_getElem hj2
          have hlast : lastT B (j + 1) = B[j].t := by simp [lastT, List.getD, hx]
          have hgt : lastT B j < B[j].t := by
            cases j with
            | zero => have := hpos B[0] (List.getElem_mem hj2); simp only [lastT]; omega
            | succ j =>
              have hy : B[j]? = some B[j] := List.getElem?_eq_getElem (by omega)
              have := pair_lt hinc hy hx (by omega)
              simp only [lastT, List.getD, hy]
              exact this
          generalize B[j] = x at hx hlast hgt
          have hngt : ¬ x.t ≤ lastT B j := by omega
          obtain ⟨lb, lc', e1, _, _, _, hl1, _⟩ := own_addr (Q3.row List.mem_cons_self) (by omega)
          cases e1
          have z2 := hl1 (j * 3 + 2) (by omega)
          rw [(flatL_get hx).2.2] at z2
          clear hl1
          have hj0 : (0 : Int) ≤ j := by omega
          go_wp2
          go_roundw
          case rel => exact ⟨j + 1, by omega, by go_num, by rw [hlast], Q3⟩
          case measure => simp [intOf]; omega
        · obtain rfl : j = B.length := by omega
          go_wp2
          go_roundw
          case rel => exact ⟨c + 1, by omega, by go_num, Y, F2, Q3.nil⟩
          case measure => simp [intOf]; omega
    · obtain rfl : c = 3 := by omega
      have hfull := F.full
      have OX := F.all.ok
      have hs : X.stamps.length < 1000000 := by have := F.s; omega
      have hol : (orderL X).length = X.stamps.length := by rw [order_len, hfull]; omega
      generalize hn : X.stamps.length = n at *
      have hw2 : IntKind.i64.wrap ((n : Int) + 1) = ((n + 1 : Nat) : Int) := by rw [IntKind.wrap_i64]; omega
      go_upto_region 23 with (go_at_call 17; refine (order_l Q OX (by rw [hn]; exact hs)).mono ?_; rintro e y1 ⟨ov, rfl, hov, Q1⟩; dsimp only)
      rw [hol] at hov
      obtain ⟨oa, oc, eo, _, _⟩ := own_len hov
      subst eo
      have hseen0 := seen_zero X n
      obtain ⟨LX, MX, _⟩ := id Q1
      go_upto_region 26 with (first | (go_at_call 16; refine (tickets_c g X LX _ MX).mono ?_; rintro e y' ⟨rfl, rfl⟩; dsimp only; rw [hn]) | ((with_reducible refine wpList_make64 rfl _ rfl (n + 1) rfl (by omega) ?_); intro sb y3 hsb hB3; simp only [Act.put, List.setIfInBounds_toArray, List.set_cons_succ, List.set_cons_zero]))
      have hst : (0 < n → ∃ ob, oa = some ⟨ob, 0, none⟩ ∧ SL x' g X ob oc sb n 0 y3) ∧ LR x' g X [] y3 := by
        have Q3 := Q1.grow hB3
        refine ⟨fun h0 => ?_, Q3⟩
        have ho3 := own_of_block (w' := y3) hov fun b hb => hB3.block b (hov.lt b hb).2
        obtain ⟨ob, oc', e1, _⟩ := own_addr ho3 h0
        cases e1
        exact ⟨ob, rfl, Q3, ho3, own_mono (by rw [hseen0]; exact hsb) Q1.below.size⟩
      clear hsb hB3 Q Q1 hov hseen0 MX
      go_wp2
      go_loopw [16] (fun s16 wr => ∃ j : Nat, j ≤ n ∧ s16 = .int .i64 j ∧ Hid ((0 < n → ∃ ob, oa = some ⟨ob, 0, none⟩ ∧ SL x' g X ob oc sb n j wr) ∧ LR x' g X [] wr)) (fun s16 _ => n - (intOf s16).toNat)
      case atStart => exact ⟨0, Nat.zero_le _, rfl, hst⟩
      case round =>
        obtain ⟨j, hj1, rfl, hH⟩ := hrel
        obtain ⟨q1, q2⟩ := hH.out
        clear hH hst
        by_cases hj : (j : Int) < n
        · obtain ⟨ob, rfl, Y⟩ := q1 (by omega)
          obtain ⟨k, hk⟩ := F.all.bij.sur ((j : Int) + 1) (by omega) (by omega)
          have hkn : k < n := by rw [← hn]; exact (List.getElem?_eq_some_iff.1 hk).1
          have hog := ord_get F.all.bij OX.st OX.pos hk (by omega)
          rw [show ((j : Int) + 1 - 1).toNat = j by omega] at hog
          have z1 := Y.ord.cellAt j (by omega)
          rw [List.getElem?_map, hog] at z1
          replace z1 : wr.cell? ⟨ob, j, none⟩ = some (vI ((k : Int) + 1)) := z1
          have hsv := stamp_at hk
          have z2 := Y.seen.cellAt (k + 1) (by omega)
          rw [seenV, List.getElem?_map, List.getElem?_range (by omega), Option.map_some, show ((k + 1 : Nat) : Int) = (k : Int) + 1 by omega, hsv, decide_eq_false (by omega)] at z2
          have fz := Y.seen.frozenAt (k + 1)
          have Y2 := Y.step F.all hk
          obtain ⟨L2, M2, _⟩ := id q2
          have hj0 : (0 : Int) ≤ j := by omega
          have hk1 : ¬ ((k : Int) + 1 < 1) := by omega
          have hk2 : ¬ ((n : Int) + 1 ≤ (k : Int) + 1) := by omega
          have hk3 : (0 : Int) ≤ (k : Int) + 1 := by omega
          have hk4 : (k : Int) + 1 < (n : Int) + 1 := by omega
          have hk5 : ((k : Int) + 1).toNat = k + 1 := by omega
          go_wp2_with (go_at_call 22; refine (stamp_c g X L2 _ _ M2).mono ?_; rintro e y' ⟨rfl, rfl⟩; dsimp only; rw [hsv])
          go_roundw
          case rel => exact ⟨j + 1, by omega, by go_num, fun _ => ⟨ob, rfl, Y2⟩, Y2.mem⟩
          case measure => simp [intOf]; omega
        · obtain rfl : j = n := by omega
          clear q1
          go_wp2
          go_loopw [17] (fun s17 wr => ∃ u : Nat, u ≤ 4 ∧ s17 = .int .i64 u ∧ Hid (LR x' g X [] wr)) (fun s17 _ => 4 - (intOf s17).toNat)
          case atStart => exact ⟨0, by omega, rfl, q2⟩
          case round =>
            obtain ⟨u, hu1, rfl, hH⟩ := hrel
            have Q5 := hH.out
            clear hH q2
            by_cases hu : (u : Int) < 4
            · have hA : U64 (8 * (u : Int)) := ⟨by omega, by omega⟩
              have wa : IntKind.i64.wrap (8 * (u : Int)) = 8 * (u : Int) := by rw [IntKind.wrap_i64]; omega
              have wb : IntKind.u64.wrap (8 * (u : Int)) = 8 * (u : Int) := by rw [IntKind.wrap_u64]; omega
              have hwb : hasWordB X (8 * (u : Int)) = true := by simp only [hasWordB, withinB, F.w, Bool.and_eq_true, beq_iff_eq, decide_eq_true_eq]; omega
              have hld : ∀ c : Nat, c < 3 → loadP X c (8 * u) = (peekV X (8 * u), peekT X (8 * u)) ∧ okB X c (8 * u) = true := fun c hc => by
                have hcb : hasCoreB X c = true := by simp only [hasCoreB, F.b, Bool.and_eq_true, decide_eq_true_eq]; omega
                refine ⟨?_, by rw [okB, hcb, hwb]; rfl⟩
                rw [load_of hcb hwb, F.e c hc]; rfl
              go_wp2_with (go_at_call 26; refine (peek_l Q5 OX (8 * u) hA).mono ?_; rintro e y5 ⟨rfl, Q6⟩; dsimp only; rw [hwb, show argE true = 0 from rfl])
              go_loopw [21] (fun s21 wr => ∃ c : Nat, c ≤ 3 ∧ s21 = .int .i64 c ∧ Hid (LR x' g X [] wr)) (fun s21 _ => 3 - (intOf s21).toNat)
              case atStart => exact ⟨0, by omega, rfl, Q6⟩
              case round =>
                obtain ⟨c, hc1, rfl, hH⟩ := hrel
                have Q7 := hH.out
                clear hH Q6
                by_cases hc2 : (c : Int) < 3
                · obtain ⟨l1, l2⟩ := hld c (by omega)
                  go_wp2_with (go_at_call 12; refine (load_l Q7 OX c (8 * u) hA).mono ?_; rintro e y6 ⟨rfl, Q8⟩; dsimp only; rw [l1, l2, show argE true = 0 from rfl]; dsimp only)
                  go_roundw
                  case rel => exact ⟨c + 1, by omega, by go_num, Q8⟩
                  case measure => simp [intOf]; omega
                · go_wp2
                  go_roundw
                  case rel => exact ⟨u + 1, by omega, by go_num, Q7⟩
                  case measure => simp [intOf]; omega
            · go_wp2
              go_ret
              exact ⟨rfl, below_then hb1 (Nat.le_refl _) Q5.below⟩
end Go.Proofs.Ytjkjbcnafpljoaa
