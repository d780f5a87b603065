/- MonitorPlays' walk. -/
import Derived.Test.YtgloemlbkkjcaaaNb
import Derived.Test.YtgloemlbkkjcaaaAp
import Derived.Deep.CutBlock
namespace Go.Proofs.Ytgloemlbkkjcaaa
open Go.RowKit
set_option linter.unusedVariables false
set_option linter.unusedSimpArgs false

theorem RefAt.sts {h hb ab g : Nat} {rs : List Mk} {w w' : World} (H : RefAt h hb ab rs w) (S : Sts g w w') (hg : ¬ RFoot h hb ab g) : RefAt h hb ab rs w' :=
  H.keep fun k hk => S.2 k (H.lt hk) (fun e => hg (e ▸ hk))
theorem LM.goes {w0 w w' : World} {g h hb ab : Nat} {n : Int} {ms : List Mk} (H : LM w0 g n ms w) (G : Goes (RFoot h hb ab) w w') (hg : ¬ RFoot h hb ab g) (low : ∀ k, RFoot h hb ab k → w0.heap.size ≤ k) : LM w0 g n ms w' :=
  ⟨H.at_.keep (G.block g H.at_.lt hg), H.low, H.below.trans (G.below H.below.size low), H.ok, H.n8⟩
theorem errF : errE false = 1 := rfl
theorem foot_ne {h hb ab b : Nat} {rs : List Mk} {w : World} {X : Array Value} {t : TypeId} (H : RefAt h hb ab rs w) (hX : w.heap[b]? = some (.cells X t)) (ht : t ≠ 39 ∧ t ≠ 4 ∧ t ≠ 30) : ¬ RFoot h hb ab b := by
  rintro (rfl | rfl | rfl)
  · exact ne_of_type hX H.top ht.1 rfl
  · exact ne_of_type hX H.has ht.2.1 rfl
  · exact ne_of_type hX H.at_ ht.2.2 rfl
/-- A world in which but the draws have gone on. -/
structure Alike (y w : World) : Prop where
  os : w.os = y.os
  tape : w.tape = y.tape
  output : w.output = y.output
  heap : w.heap = y.heap
theorem Alike.below {y w : World} (h : Alike y w) : Below y.heap.size y w := ⟨h.os, h.tape, h.output, by rw [h.heap]; exact Nat.le_refl _, fun _ _ => by rw [h.heap]⟩
theorem Alike.cell {y w : World} (h : Alike y w) {b k : Nat} {v : Option Value} (hc : y.cell? ⟨b, k, none⟩ = v) : w.cell? ⟨b, k, none⟩ = v := by rw [← hc]; simp only [World.cell?, h.heap]
theorem Alike.drew {y w : World} (h : Alike y w) (n : Nat) : Alike y (w.drewN n) := ⟨h.os, h.tape, h.output, h.heap⟩
set_option maxRecDepth 8000 in
set_option maxHeartbeats 8000000 in
theorem plays_yes (n : Nat) (v : Value) (ss : List St3) (w : World) (h1 : 1 ≤ n) (hn8 : n ≤ 8) (R : Scr w v ss) : Calls Try.prog 3 #[vI n, v] w fun e w' => e = .returned (.bool true) ∧ Below w.heap.size w w' := by
  obtain ⟨ao, cap, ev⟩ := R.len
  have hmx := R.max
  simp only [maxLen] at hmx
  have hN : newB n = true := by simp only [newB, Bool.and_eq_true, decide_eq_true_eq]; omega
  have hn1 : ¬ (n : Int) < 1 := by omega
  have hn2 : ¬ 8 < (n : Int) := by omega
  go_enter Try.func3, Try.ntmps3
  go_wp2_with (first | (go_at_call 7; refine (known_c _).mono ?_; rintro e x1 ⟨rfl, hb1⟩; dsimp only) | (go_at_call 8; refine (new_m n _ hN).mono ?_; rintro e x2 ⟨rfl, H0⟩; dsimp only; generalize x1.heap.size = g at H0 ⊢) | (go_at_call 9; refine (rnew_c n _ hn8).mono ?_; rintro e x3 ⟨h, hb, ab, rfl, F0, low0, hB3⟩; dsimp only))
  have H3 := H0.grow hB3
  have low : ∀ k, RFoot h hb ab k → x1.heap.size ≤ k := fun k hk => Nat.le_trans H0.below.size (low0 k hk)
  have hgf : ¬ RFoot h hb ab g := foot_ne F0 H3.at_.row (by decide)
  have R' := R.grow hb1
  clear R H0 low0
  go_loopw [9] (fun s9 wr => ∃ i : Nat, i ≤ ss.length ∧ i ≤ 200 ∧ s9 = .int .i64 i ∧ Hid (∃ ms rs, LM x1 g n ms wr ∧ RefAt h hb ab rs wr ∧ Like n ms rs)) (fun s9 _ => 200 - (intOf s9).toNat)
  case atStart => exact ⟨0, Nat.zero_le _, Nat.zero_le _, rfl, nilM, nilR n, H3, F0, like_new n⟩
  case round =>
    obtain ⟨i, hi1, hi2, rfl, hH⟩ := hrel
    obtain ⟨ms, rs, L1, F1, K1⟩ := hH.out
    clear hH H3 F0
    by_cases hlt : (i : Int) < ss.length
    · by_cases h200 : (i : Int) < 200
      · obtain ⟨ra, rc, e2, hrc⟩ := R'.cell (by omega)
        have hx : ss[i]? = some ss[i] := List.getElem?_eq_getElem (by omega)
        have hwf := R'.wf ss[i] (List.getElem_mem (by omega))
        have hcl := hrc i _ hx
        generalize ss[i] = s at hx hwf hcl
        clear hx hrc
        have hrow : ∀ (j : Nat) x, s.row[j]? = some x → wr.cell? ((ra.add (i * 3)).add j) = some x := fun j x hx => by
          obtain ⟨h1, h2⟩ := hcl j x hx
          rw [L1.below.cell h1]; exact h2
        clear hcl
        subst e2
        have hi0 : (0 : Int) ≤ i := by omega
        have hl8 := L1.at_.len
        have hAs := hwf.a
        go_upto_region 12 with ((with_reducible refine wpList_load32 rfl _ rfl _ rfl s hrow ?_); simp only [Act.put, List.setIfInBounds_toArray, List.set_cons_succ, List.set_cons_zero])
        have P1 := L1.grow (below_alloc wr (.cells #[vI s.k, vI s.c, vU s.a] 32))
        replace F1 := F1.grow (below_alloc wr (.cells #[vI s.k, vI s.c, vU s.a] 32))
        have hbx : Box3 wr.heap.size s (wr.alloc (.cells #[vI s.k, vI s.c, vU s.a] 32)) := ⟨heap_alloc_new _ _⟩
        have hog : wr.heap.size ≠ g := by have := L1.at_.lt; omega
        generalize wr.heap.size = ob at hbx hog ⊢
        generalize h4 : World.alloc wr _ = y1
        have h5 : wr.alloc (.cells #[vI s.k, vI s.c, vU s.a] 32) = y1 := h4
        rw [h5] at P1 hbx F1
        clear h4 h5 hrow L1
        obtain ⟨c0, c1, c2⟩ := hbx.cells
        go_cut [11] from 65 to 247 (fun s11 wc => s11 = .bool (!hasB n s.c) ∧ Hid (wc = y1))
        case first =>
          by_cases hneg : s.c < 0
          · have hB : hasB n s.c = false := by simp [hasB]; omega
            go_wp2
            go_meet
            case rel => exact ⟨by rw [hB]; rfl, rfl⟩
          · by_cases hbig : (n : Int) ≤ s.c
            · have hB : hasB n s.c = false := by simp [hasB]; omega
              go_wp2
              go_meet
              case rel => exact ⟨by rw [hB]; rfl, rfl⟩
            · have hB : hasB n s.c = true := hasB_iff.2 ⟨by omega, by omega⟩
              go_wp2
              go_meet
              case rel => exact ⟨by rw [hB]; rfl, rfl⟩
        case rest =>
          obtain ⟨rfl, hq⟩ := hcut
          obtain rfl := hq.out
          clear hq
          go_upto_block 2 with fail
          go_cut [11, 12, 13] from 65 to 247 (fun s11 s12 s13 wc => s13 = .bool true ∧ ((s11 = .bool false ∧ s12 = vI 0) ∨ (s11 = .bool true ∧ s12 = vI 1)) ∧ Hid (∃ ms rs, LM x1 g n ms wc ∧ RefAt h hb ab rs wc ∧ Like n ms rs))
          case first =>
            cases hB : hasB n s.c
            · simp only [Bool.not_false]
              by_cases k1 : s.k = 1
              · as_aux_lemma =>
                  rw [k1] at c0
                  have hsm : markS n ms s.c s.a = ms := by rw [markS, hB]; rfl
                  go_wp2_with (go_at_call 10; refine (mark_m P1 s.c s.a hAs).mono ?_; rintro e y2 ⟨rfl, L2, S2⟩; dsimp only; rw [hB, errF])
                  rw [hsm] at L2
                  go_meet
                  case rel => exact ⟨rfl, .inr ⟨rfl, rfl⟩, _, _, L2, F1.sts S2 hgf, K1⟩
              · by_cases k2 : s.k = 2
                · as_aux_lemma =>
                    rw [k2] at c0
                    have hsm : clearS n ms s.c = ms := by rw [clearS, hB]; rfl
                    go_wp2_with (go_at_call 12; refine (clear_m P1 s.c).mono ?_; rintro e y2 ⟨rfl, L2, S2⟩; dsimp only; rw [hB, errF])
                    rw [hsm] at L2
                    go_meet
                    case rel => exact ⟨rfl, .inr ⟨rfl, rfl⟩, _, _, L2, F1.sts S2 hgf, K1⟩
                · by_cases k3 : s.k = 3
                  · as_aux_lemma =>
                      rw [k3] at c0
                      have hsm : wroteS n ms s.c s.a = ms := by rw [wroteS, hB]; rfl
                      have hll : wroteL n ms s.c s.a = [] := by rw [wroteL, hB]; rfl
                      go_wp2_with (go_at_call 13; refine (wrote_m P1 s.c s.a hAs).mono ?_; rintro e y2 ⟨la, lc, rfl, L2, S2, -⟩; dsimp only; rw [hB, errF, hll])
                      rw [hsm] at L2
                      go_loopw [13, 17] (fun s13 s17 wq => s13 = .bool true ∧ s17 = .int .i64 0 ∧ Hid (wq = y2)) (fun _ s17 _ => 0)
                      case atStart => exact ⟨rfl, rfl, rfl⟩
                      case round =>
                        obtain ⟨rfl, rfl, hq⟩ := hrel
                        obtain rfl := hq.out
                        clear hq
                        go_wp2
                        go_meet
                        case rel => exact ⟨rfl, .inr ⟨rfl, rfl⟩, _, _, L2, F1.sts S2 hgf, K1⟩
                  · by_cases k4 : s.k = 4
                    · as_aux_lemma =>
                        rw [k4] at c0
                        have hsm : clearS n ms s.c = ms := by rw [clearS, hB]; rfl
                        have htk : takeB n ms s.c s.a = false := by rw [takeB, hB]; rfl
                        go_wp2_with (go_at_call 15; refine (take_m P1 s.c s.a hAs).mono ?_; rintro e y2 ⟨rfl, L2, S2⟩; dsimp only; rw [hB, errF, htk])
                        rw [hsm] at L2
                        go_meet
                        case rel => exact ⟨rfl, .inr ⟨rfl, rfl⟩, _, _, L2, F1.sts S2 hgf, K1⟩
                    · as_aux_lemma =>
                        have k1' : (s.k == 1) = false := by simpa using k1
                        have k2' : (s.k == 2) = false := by simpa using k2
                        have k3' : (s.k == 3) = false := by simpa using k3
                        have k4' : (s.k == 4) = false := by simpa using k4
                        go_wp2
                        go_meet
                        case rel => exact ⟨rfl, .inl ⟨rfl, rfl⟩, _, _, P1, F1, K1⟩
            · simp only [Bool.not_true]
              obtain ⟨k, hk⟩ : ∃ k : Nat, s.c = k := ⟨s.c.toNat, by have := (hasB_iff.1 hB).1; omega⟩
              rw [hk] at c1 hB
              have hkn : k < n := by have := (hasB_iff.1 hB).2; omega
              have hkl : k < rs.length := by rw [K1.len]; exact hkn
              have hk0 : (0 : Int) ≤ k := by omega
              have hk1 : (k : Int) < n := by omega
              have hr8 : rs.length ≤ 8 := by rw [K1.len]; exact hn8
              by_cases k1 : s.k = 1
              · as_aux_lemma =>
                  rw [k1] at c0
                  have K2 := like_mark K1 hl8 hn8 hkn s.a
                  go_upto_region 19 with (go_at_call 10; refine (mark_m P1 k s.a hAs).mono ?_; rintro e y2 ⟨rfl, L2, S2⟩; dsimp only; rw [hB, errT])
                  have hbx2 : Box3 ob s y2 := ⟨S2.get hbx.at_ hog⟩
                  have F1' := F1.sts S2 hgf
                  have hof : ¬ RFoot h hb ab ob := foot_ne F1' hbx2.at_ (by decide)
                  clear c0 c1 c2
                  obtain ⟨c0, c1, c2⟩ := hbx2.cells
                  rw [hk] at c1
                  go_wp2_with (go_at_call 11; refine (rmark_c h hb ab rs k s.a _ F1' hkl hr8 hAs).mono ?_; rintro e y3 ⟨rfl, F2, G3⟩; dsimp only)
                  go_meet
                  case rel => exact ⟨rfl, .inl ⟨rfl, rfl⟩, _, _, L2.goes G3 hgf low, F2, K2⟩
              · by_cases k2 : s.k = 2
                · as_aux_lemma =>
                    rw [k2] at c0
                    have hx : rs[k]? = some (rs.getD k (false, 0)) := by rw [List.getD_eq_getElem?_getD, List.getElem?_eq_getElem hkl]; rfl
                    have K2 := like_clear K1 hl8 hn8 hkn (rs.getD k (false, 0)).2
                    go_upto_region 24 with (go_at_call 12; refine (clear_m P1 k).mono ?_; rintro e y2 ⟨rfl, L2, S2⟩; dsimp only; rw [hB, errT])
                    have hbx2 : Box3 ob s y2 := ⟨S2.get hbx.at_ hog⟩
                    have F1' := F1.sts S2 hgf
                    have hof : ¬ RFoot h hb ab ob := foot_ne F1' hbx2.at_ (by decide)
                    clear c0 c1 c2
                    obtain ⟨c0, c1, c2⟩ := hbx2.cells
                    rw [hk] at c1
                    have hrl := K1.len
                    have fz : Below y2.heap.size y2 y2 := Below.refl _ _
                    refine Rel.wp_region_tail 6 Rel.Grows (fun x => Below y2.heap.size y2 x) [.inl (ptr h 0), .inl (ptr h 0), .inl (ptr h 0), .inl (.slice (some ⟨hb, 0, none⟩) n n), .inl (ptr ob 1), .inl (vI k)] (by kernel_rfl) (by kernel_rfl) (fun a b h1 h2 => below_then h1 (Nat.le_refl _) h2) ⟨rfl, rfl, rfl, Nat.le_refl _, fun _ _ => rfl⟩ ?_ ?_
                    · intro k hk
                      simp only [List.mem_cons, List.not_mem_nil, or_false] at hk
                      rcases hk with rfl | rfl | rfl | rfl | rfl | rfl <;> trivial
                    iterate 3
                      refine ⟨fun w1 hC hF => by (go_simp <;> exact Below.refl _ _), ?_⟩
                      simp only [Act.put, List.setIfInBounds_toArray, List.set_cons_succ, List.set_cons_zero]
                    refine ⟨fun w1 hC hF => by
                      have d0 := (F1'.grow hC).c0
                      rw [hrl] at d0
                      go_simp <;> exact Below.refl _ _, ?_⟩
                    simp only [Act.put, List.setIfInBounds_toArray, List.set_cons_succ, List.set_cons_zero]
                    refine ⟨fun w1 hC hF => by (go_simp <;> exact Below.refl _ _), ?_⟩
                    simp only [Act.put, List.setIfInBounds_toArray, List.set_cons_succ, List.set_cons_zero]
                    refine ⟨fun w1 hC hF => by
                      have d1 : w1.cell? ⟨ob, 1, none⟩ = some (vI k) := by rw [hC.cell (World.block_lt_of_cell? y2 _ c1)]; exact c1
                      go_simp <;> exact Below.refl _ _, ?_⟩
                    simp only [Act.put, List.setIfInBounds_toArray, List.set_cons_succ, List.set_cons_zero]
                    intro y3 hC hF
                    simp only [List.drop_succ_cons, List.drop_zero]
                    clear hF c0 c1 c2
                    have F3 := F1'.grow hC
                    obtain ⟨j1, j2⟩ := F3.ch hx
                    have F4 := F3.putH hx false
                    have G4 := goes_setCell (F := RFoot h hb ab) y3 (k := k) (.inr (.inl rfl)) (.bool false)
                    have L4 := (L2.grow hC).goes G4 hgf low
                    go_wp2
                    go_meet
                    case rel => exact ⟨rfl, .inl ⟨rfl, rfl⟩, _, _, L4, F4, K2⟩
                · by_cases k3 : s.k = 3
                  · as_aux_lemma =>
                      rw [k3] at c0
                      have K2 := like_wrote K1 hl8 hn8 hB s.a
                      have hwl := like_list K1 hl8 hn8 hB s.a
                      go_upto_region 27 with (go_at_call 13; refine (wrote_m P1 k s.a hAs).mono ?_; rintro e y2 ⟨la, lc, rfl, L2, S2, R2⟩; dsimp only; rw [hB, errT])
                      have hbx2 : Box3 ob s y2 := ⟨S2.get hbx.at_ hog⟩
                      have F1' := F1.sts S2 hgf
                      have hof : ¬ RFoot h hb ab ob := foot_ne F1' hbx2.at_ (by decide)
                      clear c0 c1 c2
                      obtain ⟨c0, c1, c2⟩ := hbx2.cells
                      rw [hk] at c1
                      have hx9 : (wroteL n ms k s.a).length ≤ 8 := by rw [wroteL, hB, if_pos rfl]; exact lst_len _ _ _ _
                      generalize hWL : wroteL n ms k s.a = W at R2 hx9 ⊢
                      rw [hWL] at hwl
                      replace hwl := show Hid _ from hwl
                      go_wp2_with (go_at_call 14; refine (rwrote_c h hb ab rs k s.a _ F1' hr8 hAs).mono ?_; rintro e y3 ⟨ra2, rc2, rfl, Q3⟩; dsimp only; rw [← hwl.out] at Q3 ⊢)
                      have L3 := L2.goes Q3.goes hgf low
                      have R3 : y3.ownsRow 0 3 1 (.slice la W.length lc) W.length (W.map vI) := own_base (own_of_block R2 fun b hb => Q3.goes.block b (R2.lt b hb).2 (fun f => by
                        rcases f with rfl | rfl | rfl
                        · exact own_ne F1'.top R2 (by decide) hb
                        · exact own_ne F1'.has R2 (by decide) hb
                        · exact own_ne F1'.at_ R2 (by decide) hb)) (Nat.zero_le _)
                      have R4 := Q3.row
                      have F3 := Q3.ref
                      clear Q3 R2
                      go_loopw [13, 17] (fun s13 s17 wq => ∃ j : Nat, j ≤ W.length ∧ s17 = .int .i64 j ∧ s13 = .bool true ∧ Hid (Alike y3 wq)) (fun _ s17 _ => W.length - (intOf s17).toNat)
                      case atStart => exact ⟨0, Nat.zero_le _, rfl, rfl, rfl, rfl, rfl, rfl⟩
                      case round =>
                        obtain ⟨j, hj, rfl, rfl, hq⟩ := hrel
                        have hq' := hq.out
                        clear hq
                        by_cases hjl : (j : Int) < W.length
                        · have hj0 : (0 : Int) ≤ j := by omega
                          obtain ⟨b1, cp1, e1, _, _, _, hl1, _⟩ := own_addr R3 (by omega)
                          obtain ⟨b2, cp2, e2, _, _, _, hl2, _⟩ := own_addr R4 (by omega)
                          have hxj : W[j]? = some W[j] := List.getElem?_eq_getElem (by omega)
                          have z1 := hl1 j (by omega)
                          have z2 := hl2 j (by omega)
                          rw [List.getElem?_map, hxj] at z1 z2
                          generalize W[j] = xj at z1 z2 hxj
                          have z1' := hq'.cell z1
                          have z2' := hq'.cell z2
                          replace hq' := show Hid _ from hq'
                          simp only [Value.slice.injEq] at e1 e2
                          obtain ⟨rfl, -, -⟩ := e1
                          obtain ⟨rfl, -, -⟩ := e2
                          clear hl1 hl2 z1 z2 hxj
                          go_upto_region 35 with fail
                          go_quiet (fail)
                          go_wp2
                          go_roundw
                          case rel => exact ⟨j + 1, by omega, by go_num, rfl, hq'.out.drew _⟩
                          case measure => simp [intOf]; omega
                        · obtain rfl : j = W.length := by omega
                          go_wp2
                          go_meet
                          case rel => exact ⟨rfl, .inl ⟨rfl, rfl⟩, _, _, L3.grow hq'.below, F3.grow hq'.below, K2⟩
                  · by_cases k4 : s.k = 4
                    · as_aux_lemma =>
                        rw [k4] at c0
                        have K2 := like_clear K1 hl8 hn8 hkn (rs.getD k (false, 0)).2
                        have htk := like_take K1 hkn s.a
                        go_upto_region 38 with (go_at_call 15; refine (take_m P1 k s.a hAs).mono ?_; rintro e y2 ⟨rfl, L2, S2⟩; dsimp only; rw [hB, errT, htk])
                        have hbx2 : Box3 ob s y2 := ⟨S2.get hbx.at_ hog⟩
                        have F1' := F1.sts S2 hgf
                        have hof : ¬ RFoot h hb ab ob := foot_ne F1' hbx2.at_ (by decide)
                        clear c0 c1 c2
                        obtain ⟨c0, c1, c2⟩ := hbx2.cells
                        rw [hk] at c1
                        generalize hTB : rtakeB rs k s.a = tb
                        go_wp2_with (go_at_call 16; refine (rtake_c h hb ab rs k s.a _ F1' hkl hr8 hAs).mono ?_; rintro e y3 ⟨rfl, F2, G3⟩; dsimp only; rw [hTB])
                        go_meet
                        case rel => exact ⟨rfl, .inl ⟨rfl, rfl⟩, _, _, L2.goes G3 hgf low, F2, K2⟩
                    · as_aux_lemma =>
                        have k1' : (s.k == 1) = false := by simpa using k1
                        have k2' : (s.k == 2) = false := by simpa using k2
                        have k3' : (s.k == 3) = false := by simpa using k3
                        have k4' : (s.k == 4) = false := by simpa using k4
                        go_wp2
                        go_meet
                        case rel => exact ⟨rfl, .inl ⟨rfl, rfl⟩, _, _, P1, F1, K1⟩
          case rest =>
            obtain ⟨rfl, hfb, hH⟩ := hcut
            obtain ⟨ns, qs, L2, F2, K2⟩ := hH.out
            clear hH P1 F1 K1 c0 c1 c2 hbx
            rcases hfb with ⟨rfl, rfl⟩ | ⟨rfl, rfl⟩
            · as_aux_lemma =>
                go_wp2
                go_loopw [21] (fun s21 wq => ∃ c : Nat, c ≤ n ∧ s21 = .int .i64 c ∧ Hid (LM x1 g n ns wq ∧ RefAt h hb ab qs wq)) (fun s21 _ => n - (intOf s21).toNat)
                case atStart => exact ⟨0, Nat.zero_le _, rfl, L2, F2⟩
                case round =>
                  obtain ⟨c, hc, rfl, hH⟩ := hrel
                  obtain ⟨L3, F3⟩ := hH.out
                  clear hH L2 F2
                  by_cases hcl : (c : Int) < n
                  · have hcn : c < n := by omega
                    have hc0 : (0 : Int) ≤ c := by omega
                    have hBc : hasB n c = true := hasB_iff.2 ⟨hc0, hcl⟩
                    have hmk : markedP n ns c = ((mkAt ns c).2 * 64, (mkAt ns c).1) := by rw [markedP, hBc, if_pos rfl]
                    obtain ⟨e1, e2⟩ := K2.same c hcn
                    have hm8 : mkAt ns c ∈ ns := List.mem_of_getElem? (mkAt_get (by rw [L3.at_.len]; omega))
                    obtain ⟨⟨o1, o2⟩, o3⟩ := L3.ok _ hm8
                    have hrs : qs[c]? = some (qs.getD c (false, 0)) := by rw [List.getD_eq_getElem?_getD, List.getElem?_eq_getElem (by rw [K2.len]; exact hcn)]; rfl
                    have hrl := K2.len
                    generalize mkAt ns c = m at hmk e1 e2 o1 o2 o3
                    generalize qs.getD c (false, 0) = r at hrs e1 e2
                    obtain ⟨mb, mn⟩ := m
                    obtain ⟨rb, rn⟩ := r
                    simp only at e1 e2 o1 o2 o3 hmk
                    subst e1
                    clear hm8
                    cases mb
                    · obtain rfl : mn = 0 := by have := o3 rfl; simpa using this
                      go_wp2_with (go_at_call 17; refine (marked_m L3 c).mono ?_; rintro e z9 ⟨rfl, L4, S4⟩; dsimp only; rw [hmk, hBc, errT]; have F4 := F3.sts S4 hgf; have d0 := F4.c0; have d1 := F4.c1; rw [hrl] at d0 d1; obtain ⟨j1, j2⟩ := F4.ch hrs; obtain ⟨j3, j4⟩ := F4.ca hrs)
                      go_roundw
                      case rel => exact ⟨c + 1, by omega, by go_num, L4, F4⟩
                      case measure => simp [intOf]; omega
                    · have e2' := e2 rfl
                      subst e2'
                      have wm : IntKind.u64.wrap (mn * 64) = mn * 64 := by rw [IntKind.wrap_u64]; omega
                      go_wp2_with (go_at_call 17; refine (marked_m L3 c).mono ?_; rintro e z9 ⟨rfl, L4, S4⟩; dsimp only; rw [hmk, hBc, errT]; have F4 := F3.sts S4 hgf; have d0 := F4.c0; have d1 := F4.c1; rw [hrl] at d0 d1; obtain ⟨j1, j2⟩ := F4.ch hrs; obtain ⟨j3, j4⟩ := F4.ca hrs)
                      go_roundw
                      case rel => exact ⟨c + 1, by omega, by go_num, L4, F4⟩
                      case measure => simp [intOf]; omega
                  · obtain rfl : c = n := by omega
                    go_wp2
                    go_roundw
                    case rel => exact ⟨i + 1, by omega, by omega, by go_num, ns, qs, L3, F3, K2⟩
                    case measure => simp [intOf]; omega
            · as_aux_lemma =>
                go_wp2
                go_loopw [21] (fun s21 wq => ∃ c : Nat, c ≤ n ∧ s21 = .int .i64 c ∧ Hid (LM x1 g n ns wq ∧ RefAt h hb ab qs wq)) (fun s21 _ => n - (intOf s21).toNat)
                case atStart => exact ⟨0, Nat.zero_le _, rfl, L2, F2⟩
                case round =>
                  obtain ⟨c, hc, rfl, hH⟩ := hrel
                  obtain ⟨L3, F3⟩ := hH.out
                  clear hH L2 F2
                  by_cases hcl : (c : Int) < n
                  · have hcn : c < n := by omega
                    have hc0 : (0 : Int) ≤ c := by omega
                    have hBc : hasB n c = true := hasB_iff.2 ⟨hc0, hcl⟩
                    have hmk : markedP n ns c = ((mkAt ns c).2 * 64, (mkAt ns c).1) := by rw [markedP, hBc, if_pos rfl]
                    obtain ⟨e1, e2⟩ := K2.same c hcn
                    have hm8 : mkAt ns c ∈ ns := List.mem_of_getElem? (mkAt_get (by rw [L3.at_.len]; omega))
                    obtain ⟨⟨o1, o2⟩, o3⟩ := L3.ok _ hm8
                    have hrs : qs[c]? = some (qs.getD c (false, 0)) := by rw [List.getD_eq_getElem?_getD, List.getElem?_eq_getElem (by rw [K2.len]; exact hcn)]; rfl
                    have hrl := K2.len
                    generalize mkAt ns c = m at hmk e1 e2 o1 o2 o3
                    generalize qs.getD c (false, 0) = r at hrs e1 e2
                    obtain ⟨mb, mn⟩ := m
                    obtain ⟨rb, rn⟩ := r
                    simp only at e1 e2 o1 o2 o3 hmk
                    subst e1
                    clear hm8
                    cases mb
                    · obtain rfl : mn = 0 := by have := o3 rfl; simpa using this
                      go_wp2_with (go_at_call 17; refine (marked_m L3 c).mono ?_; rintro e z9 ⟨rfl, L4, S4⟩; dsimp only; rw [hmk, hBc, errT]; have F4 := F3.sts S4 hgf; have d0 := F4.c0; have d1 := F4.c1; rw [hrl] at d0 d1; obtain ⟨j1, j2⟩ := F4.ch hrs; obtain ⟨j3, j4⟩ := F4.ca hrs)
                      go_roundw
                      case rel => exact ⟨c + 1, by omega, by go_num, L4, F4⟩
                      case measure => simp [intOf]; omega
                    · have e2' := e2 rfl
                      subst e2'
                      have wm : IntKind.u64.wrap (mn * 64) = mn * 64 := by rw [IntKind.wrap_u64]; omega
                      go_wp2_with (go_at_call 17; refine (marked_m L3 c).mono ?_; rintro e z9 ⟨rfl, L4, S4⟩; dsimp only; rw [hmk, hBc, errT]; have F4 := F3.sts S4 hgf; have d0 := F4.c0; have d1 := F4.c1; rw [hrl] at d0 d1; obtain ⟨j1, j2⟩ := F4.ch hrs; obtain ⟨j3, j4⟩ := F4.ca hrs)
                      go_roundw
                      case rel => exact ⟨c + 1, by omega, by go_num, L4, F4⟩
                      case measure => simp [intOf]; omega
                  · obtain rfl : c = n := by omega
                    go_wp2
                    go_roundw
                    case rel => exact ⟨i + 1, by omega, by omega, by go_num, ns, qs, L3, F3, K2⟩
                    case measure => simp [intOf]; omega
      · have hi200 : i = 200 := by omega
        as_aux_lemma =>
          have hb1' : hasB n n = false := by simp [hasB]
          have hb2' : hasB n (-1) = false := by simp [hasB]
          have hm1 : markedP n ms n = (0, false) := by rw [markedP, hb1']; rfl
          have hm2 : markedP n ms (-1) = (0, false) := by rw [markedP, hb2']; rfl
          go_wp2_with (first | (go_at_call 17; refine (marked_m L8 (-1)).mono ?_; rintro e z2 ⟨rfl, L9, -⟩; dsimp only; rw [hm2, hb2', errF]) | (go_at_call 17; refine (marked_m L1 n).mono ?_; rintro e z1 ⟨rfl, L8, -⟩; dsimp only; rw [hm1, hb1', errF]))
          go_ret
          exact ⟨rfl, below_then hb1 (Nat.le_refl _) L9.below⟩
    · as_aux_lemma =>
        have hb1' : hasB n n = false := by simp [hasB]
        have hb2' : hasB n (-1) = false := by simp [hasB]
        have hm1 : markedP n ms n = (0, false) := by rw [markedP, hb1']; rfl
        have hm2 : markedP n ms (-1) = (0, false) := by rw [markedP, hb2']; rfl
        go_wp2_with (first | (go_at_call 17; refine (marked_m L8 (-1)).mono ?_; rintro e z2 ⟨rfl, L9, -⟩; dsimp only; rw [hm2, hb2', errF]) | (go_at_call 17; refine (marked_m L1 n).mono ?_; rintro e z1 ⟨rfl, L8, -⟩; dsimp only; rw [hm1, hb1', errF]))
        go_ret
        exact ⟨rfl, below_then hb1 (Nat.le_refl _) L9.below⟩

end Go.Proofs.Ytgloemlbkkjcaaa
