/- FetchSees: the walk. -/
import Derived.Test.YtbdmemjenpnjgaaLgr
import Derived.Test.YtbdmemjenpnjgaaLd
import Derived.Test.YtbdmemjenpnjgaaFr
namespace Go.Proofs.Ytbdmemjenpnjgaa
open Go.RowKit
set_option linter.unusedVariables false
set_option linter.unusedSimpArgs false
set_option maxRecDepth 8000

open Go.Shelf Go.Maps
set_option maxHeartbeats 2000000 in
theorem sees_walk {tr : List Nt} {v0 : Value} {c : Int} {a x : Nat} {all : Bool} {w : World} (N : Nts w v0 tr) (ok : TrOk tr) (hroom : tr.length * 32 ≤ 140737488351232) (ha : a < 18446744073709551616) (hx : x < 4294967296) : Calls Try.prog 5 #[v0, vI c, vU a, v32 x, .bool all] w fun e w' => e = .returned (.bool true) ∧ Below w.heap.size w w' := by
  have ke := examples_c w
  have kM : ∀ W, Below w.heap.size w W → Calls Try.prog 10 #[v0, vI c, vU a, v32 1] W fun e w' => MayR W (mayW tr c a 1) (mayE tr c a) e w' := fun W B => may_all (f := 1) (c := c) (a := a) (N.grow B) ok ha (by decide)
  obtain ⟨ao, cap, ev⟩ := N.len
  subst ev
  go_enter Try.func5, Try.ntmps5
  go_upto_region 3 with (first
    | (go_at_call 8; (with_reducible refine ke.mono ?_); clear ke; rintro e w1 ⟨rfl, B1⟩; dsimp only; have k1 := kM w1 B1; clear kM)
    | (go_at_call 10; (with_reducible refine k1.mono ?_); clear k1; rintro e w2 ⟨uA, rfl, RA, B2⟩; dsimp only))
  replace B1 := below_then B1 (Nat.le_refl _) B2
  clear B2
  cases hmo : mayOk tr c a with
  | false =>
    have e1 : mayE tr c a = 1 := by unfold mayE; rw [hmo]; rfl
    have e2 : mayW tr c a 1 = [] := by unfold mayW; rw [hmo]; rfl
    rw [e1]
    rw [e2] at RA
    obtain ⟨aA, cA, eA, _⟩ := own_len RA
    subst eA
    go_wp2
    go_ret
    exact ⟨rfl, B1⟩
  | true =>
    have e1 : mayE tr c a = 0 := by unfold mayE; rw [hmo]; rfl
    have e2 : mayW tr c a 1 = mayL tr c a 1 := by unfold mayW; rw [hmo]; rfl
    rw [e1]
    rw [e2] at RA
    clear e1 e2
    have hc64 : -9223372036854775808 ≤ c ∧ c < 9223372036854775808 := by
      have h := hmo
      unfold mayOk at h
      simp only [Bool.and_eq_true, coreB, decide_eq_true_eq] at h
      omega
    have WA2 := wds_of_own RA (Nat.le_trans (mayL_len _ _ _ _) (by omega))
    obtain ⟨M, hM⟩ : ∃ M, M = mayL tr c a 1 := ⟨_, rfl⟩
    rw [← hM] at WA2
    replace hM : Hid (M = mayL tr c a 1) := hM
    obtain ⟨aA, cA, eA⟩ := WA2.len
    subst eA
    clear RA
    have kI := fun W => ic_c a W
    cases all with
    | false =>
      go_upto_region 8 with (go_at_call 15; (with_reducible refine (kI _).mono ?_); clear kI; rintro e w3 ⟨rfl, B3⟩; dsimp only)
      have L4 := LocN.new w3 ⟨2, 0, a, 0⟩
      have B4 := below_then (below_then B1 (Nat.le_refl _) B3) (Nat.le_refl _) (below_alloc w3 (.cells (ntA ⟨2, 0, a, 0⟩) 34))
      have WA := (WA2.grow B3).grow (below_alloc w3 (.cells (ntA ⟨2, 0, a, 0⟩) 34))
      obtain ⟨t, ht⟩ : ∃ t, t = w3.heap.size := ⟨_, rfl⟩
      rw [← ht] at L4
      rw [← ht]
      generalize w3.alloc (Obj.cells _ 34) = w4 at *
      clear ht B1 B3 WA2
      have hsz4 := B4.size
      have N4 := N.grow B4
      have kW := fun W => write_c a x W
      go_upto_region 9 with (first
        | (at_builtin; refine wpList_copyN rfl _ _ rfl rfl rfl N4 ?_; intro vc w5 hown5 B5; simp only [Act.put, List.setIfInBounds_toArray, List.set_cons_succ, List.set_cons_zero]; have hs5 := B5.size)
        | (go_at_call 16; (with_reducible refine (kW _).mono ?_); rintro e w6 ⟨rfl, B6⟩; dsimp only; have hs6 := B6.size)
        | (at_builtin; refine wpList_appN rfl _ _ rfl (tr := tr) (ns := [nW a x]) rfl rfl (own_grow (own_grow hown5 B6) (below_alloc w6 (.cells (ntA (nW a x)) 34))) (by simp; omega) (World.alloc_heap_new _ _) rfl (by omega) ?_; intro vL w7 hown7 hgr7 _; simp only [Act.put, List.setIfInBounds_toArray, List.set_cons_succ, List.set_cons_zero]))
      have hg7 : w6.grownBy w7 vc.ownBlock := (World.grownBy_alloc _ _ _).trans hgr7
      have R6 := own_grow hown5 B6
      have B7 : Below w4.heap.size w4 w7 := (below_then B5 (Nat.le_refl _) B6).trans ((goes_grown (F := fun q => vc.ownBlock = some q) hg7 (fun q hq => hq)).below (Nat.le_trans hs5 hs6) (fun q hq => (R6.lt q hq).1))
      clear hgr7 hg7 R6 hown5 B5 B6 hs5 hs6 N4 kW
      have ok7 : TrOk (tr ++ [nW a x]) := trOk_app ok ⟨⟨(by decide : (-9223372036854775808 : Int) ≤ 1), (by decide : (1 : Int) < 9223372036854775808)⟩, ⟨(by decide : (-9223372036854775808 : Int) ≤ 0), (by decide : (0 : Int) < 9223372036854775808)⟩, ha, hx⟩
      obtain ⟨m1, m2, m3, m4, m5⟩ := see_plain (x := x) (y := (⟨2, 0, a, 0⟩ : Nt)) hmo (by simp [isT]) (by simp [isW]) (by simp [wrongB])
      have hlen7 : (tr ++ [nW a x]).length = tr.length + 1 := by simp
      have kS : Calls Try.prog 10 #[vL, vI c, vU a, v32 1] w7 fun e w' => MayR w7 (mayL (tr ++ [nW a x]) c a 1) 0 e w' := by
        have h := may_all (f := 1) (c := c) (a := a) (own_nts hown7 (by rw [hlen7]; omega)) ok7 ha (by decide)
        unfold mayW mayE at h
        rw [m1] at h
        exact h
      have hmS := mayL_len (tr ++ [nW a x]) c a 1
      obtain ⟨S, hS⟩ : ∃ S, mayL (tr ++ [nW a x]) c a 1 = S := ⟨_, rfl⟩
      rw [hS] at kS m3 m4 hmS
      rw [← hM.out] at m3
      rw [hlen7] at hmS
      obtain ⟨aL, cL, eL, _⟩ := own_len hown7
      rw [hlen7] at eL
      subst eL
      clear hS m1
      go_upto_region 10 with (go_at_call 10; (with_reducible refine kS.mono ?_); clear kS; rintro e w8 ⟨uS, rfl, RS, B8⟩; dsimp only)
      have R8 := own_grow hown7 B8
      have L8 : LocN t (⟨2, 0, a, 0⟩ : Nt) w8 := (L4.grow B7).grow B8
      have B84 : Below w4.heap.size w4 w8 := B7.trans (B8.mono B7.size)
      have hap := own_apart RS R8 (by decide)
      have hvL : ∀ k, (Value.slice aL (tr.length + 1) cL).ownBlock = some k → w4.heap.size ≤ k := fun k hk => (R8.lt k hk).1
      clear hown7 B7 B8
      have RG := sees_region (y := (⟨2, 0, a, 0⟩ : Nt)) R8 (by rw [hlen7]; omega) L8 ok7 (by exact ⟨⟨by simp, by simp⟩, ⟨by simp, by simp⟩, ha, by simp⟩) hc64 ha m2 m5 B84.size L4.lt
      obtain ⟨vL', Cs, hC0, hloc, hc3, hc4, hc5, hc8⟩ := RG
      clear R8 L8 m2 m5
      refine RelJ.wp_region_callP [3, 4, 5] 8 Cs (SeF w8 (.slice aL (tr.length + 1) cL) t (⟨2, 0, a, 0⟩ : Nt) x) (fun u => [.slice aL (tr.length + 1) cL, ntV (⟨2, 0, a, 0⟩ : Nt), vI c, ntV (nI c), .slice (some ⟨w8.heap.size + 1, 0, none⟩) 2 2, vL', vI c, vU a, u, u, tupAt u 0, tupAt u 1, tupAt u 0, tupAt u 1]) (by kernel_rfl) (by kernel_rfl) (by kernel_rfl) (by kernel_rfl) (by decide) (fun v q hq => by match q, hq with | 0, _ => rfl | 1, _ => rfl | 2, _ => rfl | 3, _ => rfl | 4, _ => rfl | 5, _ => rfl | 6, _ => rfl | 7, _ => rfl | n + 8, hq => exact absurd hq (by omega)) (fun v => rfl) (fun v => rfl) hC0 ?_
      clear hC0
      intro u
      refine ⟨by unfold RelJ.opP; rw [if_neg (by decide), if_pos (by decide), if_neg (by decide)]; intro w1 hC; exact Chn.upon_pure (C := fun z => z = w1) rfl (fun F hF => by (go_simp <;> exact hF)), ?_⟩
      simp only [Act.put, List.setIfInBounds_toArray, List.set_cons_succ, List.set_cons_zero]
      refine ⟨by
        unfold RelJ.opP; rw [if_neg (by decide), if_pos (by decide), if_neg (by decide)]; intro w1 hC
        have L1 : LocN t (⟨2, 0, a, 0⟩ : Nt) w1 := by
          rcases hC with ⟨j, hC⟩ | ⟨u2, hC⟩
          · exact hloc j w1 hC
          · exact hC.loc
        have d0 := L1.c0
        have d1 := L1.c1
        have d2 := L1.c2
        have d3 := L1.c3
        exact Chn.upon_pure (C := fun z => z = w1) rfl (fun F hF => by (go_simp <;> exact hF)), ?_⟩
      simp only [Act.put, List.setIfInBounds_toArray, List.set_cons_succ, List.set_cons_zero]
      refine ⟨by unfold RelJ.opP; rw [if_neg (by decide), if_pos (by decide), if_neg (by decide)]; intro w1 hC; exact Chn.upon_pure (C := fun z => z = w1) rfl (fun F hF => by (go_simp <;> exact hF)), ?_⟩
      simp only [Act.put, List.setIfInBounds_toArray, List.set_cons_succ, List.set_cons_zero]
      refine ⟨by
        unfold RelJ.opP; rw [if_neg (by decide), if_pos (by decide), if_pos (by decide)]; intro w1 hC
        exact Chn.upon_call (C := fun z => Cs 1 z) (hc3 w1 hC) (fun e2 w2 hh => hh) (fun F hF => by (go_simp <;> exact hF)), ?_⟩
      simp only [Act.put, List.setIfInBounds_toArray, List.set_cons_succ, List.set_cons_zero]
      refine ⟨by
        unfold RelJ.opP; rw [if_neg (by decide), if_pos (by decide), if_pos (by decide)]; intro w1 hC
        exact chn_buildN (C := fun z => Cs 2 z) (hc4 w1 hC).1 _ _ rfl (⟨2, 0, a, 0⟩ : Nt) (nI c) rfl rfl (hc4 w1 hC).2, ?_⟩
      simp only [Act.put, List.setIfInBounds_toArray, List.set_cons_succ, List.set_cons_zero]
      refine ⟨by
        unfold RelJ.opP; rw [if_neg (by decide), if_pos (by decide), if_pos (by decide)]; intro w1 hC
        obtain ⟨wA, hA, hB⟩ := hc5 w1 hC
        exact chn_runapp _ _ rfl _ _ rfl rfl hA ⟨rfl, hB⟩, ?_⟩
      simp only [Act.put, List.setIfInBounds_toArray, List.set_cons_succ, List.set_cons_zero]
      refine ⟨by unfold RelJ.opP; rw [if_neg (by decide), if_pos (by decide), if_neg (by decide)]; intro w1 hC; exact Chn.upon_pure (C := fun z => z = w1) rfl (fun F hF => by (go_simp <;> exact hF)), ?_⟩
      simp only [Act.put, List.setIfInBounds_toArray, List.set_cons_succ, List.set_cons_zero]
      refine ⟨by unfold RelJ.opP; rw [if_neg (by decide), if_pos (by decide), if_neg (by decide)]; intro w1 hC; exact Chn.upon_pure (C := fun z => z = w1) rfl (fun F hF => by (go_simp <;> exact hF)), ?_⟩
      simp only [Act.put, List.setIfInBounds_toArray, List.set_cons_succ, List.set_cons_zero]
      refine ⟨by
        unfold RelJ.opP; rw [if_pos rfl]; intro w1 hC
        exact upon_of_call (hc8 w1 hC) (fun e2 w2 hh => hh) (fun F2 hF2 => by (go_simp <;> exact hF2)), ?_⟩
      simp only [Act.put, List.setIfInBounds_toArray, List.set_cons_succ, List.set_cons_zero]
      refine ⟨by unfold RelJ.opP; rw [if_neg (by decide), if_neg (by decide)]; rintro w1 ⟨q, rfl, hC⟩; exact Chn.upon_pure (C := fun z => z = w1) rfl (fun F hF => by (go_simp <;> exact hF)), ?_⟩
      simp only [Act.put, List.setIfInBounds_toArray, List.set_cons_succ, List.set_cons_zero]
      refine ⟨by unfold RelJ.opP; rw [if_neg (by decide), if_neg (by decide)]; rintro w1 ⟨q, rfl, hC⟩; exact Chn.upon_pure (C := fun z => z = w1) rfl (fun F hF => by (go_simp <;> exact hF)), ?_⟩
      simp only [Act.put, List.setIfInBounds_toArray, List.set_cons_succ, List.set_cons_zero]
      refine ⟨by unfold RelJ.opP; rw [if_neg (by decide), if_neg (by decide)]; rintro w1 ⟨q, rfl, hC⟩; exact Chn.upon_pure (C := fun z => z = w1) rfl (fun F hF => by (go_simp <;> exact hF)), ?_⟩
      simp only [Act.put, List.setIfInBounds_toArray, List.set_cons_succ, List.set_cons_zero]
      refine ⟨by unfold RelJ.opP; rw [if_neg (by decide), if_neg (by decide)]; rintro w1 ⟨q, rfl, hC⟩; exact Chn.upon_pure (C := fun z => z = w1) rfl (fun F hF => by (go_simp <;> exact hF)), ?_⟩
      simp only [Act.put, List.setIfInBounds_toArray, List.set_cons_succ, List.set_cons_zero]
      refine ⟨by unfold RelJ.opP; rw [if_neg (by decide), if_neg (by decide)]; rintro w1 ⟨q, rfl, hC⟩; exact Chn.upon_pure (C := fun z => z = w1) rfl (fun F hF => by (go_simp <;> exact hF)), ?_⟩
      simp only [Act.put, List.setIfInBounds_toArray, List.set_cons_succ, List.set_cons_zero]
      intro w9 hC
      obtain ⟨q, rfl, Rq, G9, L9⟩ := hC
      clear hloc hc3 hc4 hc5 hc8
      simp only [tupAt]
      have B94 : Below w4.heap.size w4 w9 := B84.trans (G9.below B84.size hvL)
      have low9 : Below w.heap.size w w9 := B4.trans (B94.mono hsz4)
      have WA9 := WA.grow B94
      have WS9 : Wds w9 uS S := wds_of_own (own_of_block RS fun k hk => G9.block k (RS.lt k hk).2 (fun e => by
        rcases hap with h | h
        · rw [h] at hk; cases hk
        · exact h (hk.trans e.symm))) (by omega)
      obtain ⟨gq, cq, eq9, _, _, _, hcq, _⟩ := own_addr Rq (by decide)
      subst eq9
      have dq : w9.cell? ⟨gq, 0, none⟩ = some (v32 x) := by rw [hcq 0 (by decide)]; rfl
      obtain ⟨aS, cS, eS⟩ := WS9.len
      have hMx := WA9.max
      subst eS
      clear hcq Rq WA RS G9 B94 B84 L9 hvL hap
      go_wp2
      go_loopw [20] (fun s20 wr => wr = w9 ∧ ∃ k : Nat, k ≤ M.length ∧ s20 = vI k) (fun s20 _ => ((M.length : Int) - intOf s20).toNat)
      case atStart => exact ⟨rfl, 0, Nat.zero_le _, rfl⟩
      case round =>
        obtain ⟨rfl, k, hk, rfl⟩ := hrel
        by_cases hlt : (k : Int) < M.length
        · have hkl : k < M.length := by omega
          obtain ⟨z, hz⟩ : ∃ z, M[k]? = some z := ⟨M[k], List.getElem?_eq_getElem hkl⟩
          obtain ⟨g, off, cap', ev', hg, hcz⟩ := WA9.cell (by omega)
          cases ev'
          have hcy := hcz k z hz
          have ki := in_c WS9 z
          have hin : S.contains z = true := by simpa using m3 z (List.mem_of_getElem? hz)
          rw [hin] at ki
          clear hcz hin hz WA9 dq
          go_wp2_with (go_at_call 18; (with_reducible refine ki.mono ?_); clear ki; rintro e wz ⟨rfl, rfl⟩; dsimp only)
          go_roundw
          case rel => exact ⟨trivial, k + 1, by omega, by simp⟩
          case measure => simp [intOf]; omega
        · have ki := in_c WS9 x
          have hin : S.contains x = true := by simpa using m4
          rw [hin] at ki
          clear hin WA9 WS9
          go_wp2_with (go_at_call 18; (with_reducible refine ki.mono ?_); clear ki; rintro e wz ⟨rfl, rfl⟩; dsimp only)
          go_ret
          exact ⟨by simp, low9⟩

    | true =>
      go_upto_region 7 with (go_at_call 15; (with_reducible refine (kI _).mono ?_); clear kI; rintro e w3 ⟨rfl, B3⟩; dsimp only)
      have L4' := LocN.new w3 ⟨2, 0, a, 0⟩
      have f0 := frozen_of_row _ _ 0 _ _ L4'
      have f1 := frozen_of_row _ _ 1 _ _ L4'
      have f2 := frozen_of_row _ _ 2 _ _ L4'
      have f3 := frozen_of_row _ _ 3 _ _ L4'
      have d0 := L4'.c0
      have d1 := L4'.c1
      have d2 := L4'.c2
      have d3 := L4'.c3
      have B34' := below_alloc w3 (.cells (ntA ⟨2, 0, a, 0⟩) 34)
      have WA2 := WA2.grow B3
      obtain ⟨t, ht⟩ : ∃ t, t = w3.heap.size := ⟨_, rfl⟩
      rw [← ht] at L4' f0 f1 f2 f3 d0 d1 d2 d3
      rw [← ht]
      have htt : w3.heap.size ≤ t := by omega
      generalize w3.alloc (Obj.cells _ 34) = w3' at *
      clear ht
      obtain ⟨w4, hw4⟩ : ∃ w4, w4 = (((w3'.setCell ⟨t, 0, none⟩ (vI 3)).setCell ⟨t, 1, none⟩ (vI 0)).setCell ⟨t, 2, none⟩ (vU 0)).setCell ⟨t, 3, none⟩ (v32 0) := ⟨_, rfl⟩
      have L4 : LocN t ⟨3, 0, 0, 0⟩ w4 := by
        rw [hw4]
        have M1 : LocN t ⟨3, 0, a, 0⟩ (w3'.setCell ⟨t, 0, none⟩ (vI 3)) := heap_setCell_same w3' t 0 _ 34 _ L4'
        have M2 : LocN t ⟨3, 0, a, 0⟩ ((w3'.setCell ⟨t, 0, none⟩ (vI 3)).setCell ⟨t, 1, none⟩ (vI 0)) := heap_setCell_same _ t 1 _ 34 _ M1
        have M3 : LocN t ⟨3, 0, 0, 0⟩ (((w3'.setCell ⟨t, 0, none⟩ (vI 3)).setCell ⟨t, 1, none⟩ (vI 0)).setCell ⟨t, 2, none⟩ (vU 0)) := heap_setCell_same _ t 2 _ 34 _ M2
        exact heap_setCell_same _ t 3 _ 34 _ M3
      have B34 : Below w3.heap.size w3 w4 := by
        rw [hw4]
        exact (((B34'.setCell (p := ⟨t, 0, none⟩) htt _).setCell (p := ⟨t, 1, none⟩) htt _).setCell (p := ⟨t, 2, none⟩) htt _).setCell (p := ⟨t, 3, none⟩) htt _
      have B4 := below_then (below_then B1 (Nat.le_refl _) B3) (Nat.le_refl _) B34
      have WA := WA2.grow B34
      replace hw4 : Hid (w4 = (((w3'.setCell ⟨t, 0, none⟩ (vI 3)).setCell ⟨t, 1, none⟩ (vI 0)).setCell ⟨t, 2, none⟩ (vU 0)).setCell ⟨t, 3, none⟩ (v32 0)) := hw4
      go_upto_region 8 with fail
      rw [← hw4.out]
      clear hw4 B1 B3 WA2 L4' d0 d1 d2 d3 f0 f1 f2 f3 B34' B34 htt
      have hsz4 := B4.size
      have N4 := N.grow B4
      have kW := fun W => write_c a x W
      go_upto_region 9 with (first
        | (at_builtin; refine wpList_copyN rfl _ _ rfl rfl rfl N4 ?_; intro vc w5 hown5 B5; simp only [Act.put, List.setIfInBounds_toArray, List.set_cons_succ, List.set_cons_zero]; have hs5 := B5.size)
        | (go_at_call 16; (with_reducible refine (kW _).mono ?_); rintro e w6 ⟨rfl, B6⟩; dsimp only; have hs6 := B6.size)
        | (at_builtin; refine wpList_appN rfl _ _ rfl (tr := tr) (ns := [nW a x]) rfl rfl (own_grow (own_grow hown5 B6) (below_alloc w6 (.cells (ntA (nW a x)) 34))) (by simp; omega) (World.alloc_heap_new _ _) rfl (by omega) ?_; intro vL w7 hown7 hgr7 _; simp only [Act.put, List.setIfInBounds_toArray, List.set_cons_succ, List.set_cons_zero]))
      have hg7 : w6.grownBy w7 vc.ownBlock := (World.grownBy_alloc _ _ _).trans hgr7
      have R6 := own_grow hown5 B6
      have B7 : Below w4.heap.size w4 w7 := (below_then B5 (Nat.le_refl _) B6).trans ((goes_grown (F := fun q => vc.ownBlock = some q) hg7 (fun q hq => hq)).below (Nat.le_trans hs5 hs6) (fun q hq => (R6.lt q hq).1))
      clear hgr7 hg7 R6 hown5 B5 B6 hs5 hs6 N4 kW
      have ok7 : TrOk (tr ++ [nW a x]) := trOk_app ok ⟨⟨(by decide : (-9223372036854775808 : Int) ≤ 1), (by decide : (1 : Int) < 9223372036854775808)⟩, ⟨(by decide : (-9223372036854775808 : Int) ≤ 0), (by decide : (0 : Int) < 9223372036854775808)⟩, ha, hx⟩
      obtain ⟨m1, m2, m3, m4, m5⟩ := see_plain (x := x) (y := (⟨3, 0, 0, 0⟩ : Nt)) hmo (by simp [isT]) (by simp [isW]) (by simp [wrongB])
      have hlen7 : (tr ++ [nW a x]).length = tr.length + 1 := by simp
      have kS : Calls Try.prog 10 #[vL, vI c, vU a, v32 1] w7 fun e w' => MayR w7 (mayL (tr ++ [nW a x]) c a 1) 0 e w' := by
        have h := may_all (f := 1) (c := c) (a := a) (own_nts hown7 (by rw [hlen7]; omega)) ok7 ha (by decide)
        unfold mayW mayE at h
        rw [m1] at h
        exact h
      have hmS := mayL_len (tr ++ [nW a x]) c a 1
      obtain ⟨S, hS⟩ : ∃ S, mayL (tr ++ [nW a x]) c a 1 = S := ⟨_, rfl⟩
      rw [hS] at kS m3 m4 hmS
      rw [← hM.out] at m3
      rw [hlen7] at hmS
      obtain ⟨aL, cL, eL, _⟩ := own_len hown7
      rw [hlen7] at eL
      subst eL
      clear hS m1
      go_upto_region 10 with (go_at_call 10; (with_reducible refine kS.mono ?_); clear kS; rintro e w8 ⟨uS, rfl, RS, B8⟩; dsimp only)
      have R8 := own_grow hown7 B8
      have L8 : LocN t (⟨3, 0, 0, 0⟩ : Nt) w8 := (L4.grow B7).grow B8
      have B84 : Below w4.heap.size w4 w8 := B7.trans (B8.mono B7.size)
      have hap := own_apart RS R8 (by decide)
      have hvL : ∀ k, (Value.slice aL (tr.length + 1) cL).ownBlock = some k → w4.heap.size ≤ k := fun k hk => (R8.lt k hk).1
      clear hown7 B7 B8
      have RG := sees_region (y := (⟨3, 0, 0, 0⟩ : Nt)) R8 (by rw [hlen7]; omega) L8 ok7 (by exact ⟨⟨by simp, by simp⟩, ⟨by simp, by simp⟩, by simp, by simp⟩) hc64 ha m2 m5 B84.size L4.lt
      obtain ⟨vL', Cs, hC0, hloc, hc3, hc4, hc5, hc8⟩ := RG
      clear R8 L8 m2 m5
      refine RelJ.wp_region_callP [3, 4, 5] 8 Cs (SeF w8 (.slice aL (tr.length + 1) cL) t (⟨3, 0, 0, 0⟩ : Nt) x) (fun u => [.slice aL (tr.length + 1) cL, ntV (⟨3, 0, 0, 0⟩ : Nt), vI c, ntV (nI c), .slice (some ⟨w8.heap.size + 1, 0, none⟩) 2 2, vL', vI c, vU a, u, u, tupAt u 0, tupAt u 1, tupAt u 0, tupAt u 1]) (by kernel_rfl) (by kernel_rfl) (by kernel_rfl) (by kernel_rfl) (by decide) (fun v q hq => by match q, hq with | 0, _ => rfl | 1, _ => rfl | 2, _ => rfl | 3, _ => rfl | 4, _ => rfl | 5, _ => rfl | 6, _ => rfl | 7, _ => rfl | n + 8, hq => exact absurd hq (by omega)) (fun v => rfl) (fun v => rfl) hC0 ?_
      clear hC0
      intro u
      refine ⟨by unfold RelJ.opP; rw [if_neg (by decide), if_pos (by decide), if_neg (by decide)]; intro w1 hC; exact Chn.upon_pure (C := fun z => z = w1) rfl (fun F hF => by (go_simp <;> exact hF)), ?_⟩
      simp only [Act.put, List.setIfInBounds_toArray, List.set_cons_succ, List.set_cons_zero]
      refine ⟨by
        unfold RelJ.opP; rw [if_neg (by decide), if_pos (by decide), if_neg (by decide)]; intro w1 hC
        have L1 : LocN t (⟨3, 0, 0, 0⟩ : Nt) w1 := by
          rcases hC with ⟨j, hC⟩ | ⟨u2, hC⟩
          · exact hloc j w1 hC
          · exact hC.loc
        have d0 := L1.c0
        have d1 := L1.c1
        have d2 := L1.c2
        have d3 := L1.c3
        exact Chn.upon_pure (C := fun z => z = w1) rfl (fun F hF => by (go_simp <;> exact hF)), ?_⟩
      simp only [Act.put, List.setIfInBounds_toArray, List.set_cons_succ, List.set_cons_zero]
      refine ⟨by unfold RelJ.opP; rw [if_neg (by decide), if_pos (by decide), if_neg (by decide)]; intro w1 hC; exact Chn.upon_pure (C := fun z => z = w1) rfl (fun F hF => by (go_simp <;> exact hF)), ?_⟩
      simp only [Act.put, List.setIfInBounds_toArray, List.set_cons_succ, List.set_cons_zero]
      refine ⟨by
        unfold RelJ.opP; rw [if_neg (by decide), if_pos (by decide), if_pos (by decide)]; intro w1 hC
        exact Chn.upon_call (C := fun z => Cs 1 z) (hc3 w1 hC) (fun e2 w2 hh => hh) (fun F hF => by (go_simp <;> exact hF)), ?_⟩
      simp only [Act.put, List.setIfInBounds_toArray, List.set_cons_succ, List.set_cons_zero]
      refine ⟨by
        unfold RelJ.opP; rw [if_neg (by decide), if_pos (by decide), if_pos (by decide)]; intro w1 hC
        exact chn_buildN (C := fun z => Cs 2 z) (hc4 w1 hC).1 _ _ rfl (⟨3, 0, 0, 0⟩ : Nt) (nI c) rfl rfl (hc4 w1 hC).2, ?_⟩
      simp only [Act.put, List.setIfInBounds_toArray, List.set_cons_succ, List.set_cons_zero]
      refine ⟨by
        unfold RelJ.opP; rw [if_neg (by decide), if_pos (by decide), if_pos (by decide)]; intro w1 hC
        obtain ⟨wA, hA, hB⟩ := hc5 w1 hC
        exact chn_runapp _ _ rfl _ _ rfl rfl hA ⟨rfl, hB⟩, ?_⟩
      simp only [Act.put, List.setIfInBounds_toArray, List.set_cons_succ, List.set_cons_zero]
      refine ⟨by unfold RelJ.opP; rw [if_neg (by decide), if_pos (by decide), if_neg (by decide)]; intro w1 hC; exact Chn.upon_pure (C := fun z => z = w1) rfl (fun F hF => by (go_simp <;> exact hF)), ?_⟩
      simp only [Act.put, List.setIfInBounds_toArray, List.set_cons_succ, List.set_cons_zero]
      refine ⟨by unfold RelJ.opP; rw [if_neg (by decide), if_pos (by decide), if_neg (by decide)]; intro w1 hC; exact Chn.upon_pure (C := fun z => z = w1) rfl (fun F hF => by (go_simp <;> exact hF)), ?_⟩
      simp only [Act.put, List.setIfInBounds_toArray, List.set_cons_succ, List.set_cons_zero]
      refine ⟨by
        unfold RelJ.opP; rw [if_pos rfl]; intro w1 hC
        exact upon_of_call (hc8 w1 hC) (fun e2 w2 hh => hh) (fun F2 hF2 => by (go_simp <;> exact hF2)), ?_⟩
      simp only [Act.put, List.setIfInBounds_toArray, List.set_cons_succ, List.set_cons_zero]
      refine ⟨by unfold RelJ.opP; rw [if_neg (by decide), if_neg (by decide)]; rintro w1 ⟨q, rfl, hC⟩; exact Chn.upon_pure (C := fun z => z = w1) rfl (fun F hF => by (go_simp <;> exact hF)), ?_⟩
      simp only [Act.put, List.setIfInBounds_toArray, List.set_cons_succ, List.set_cons_zero]
      refine ⟨by unfold RelJ.opP; rw [if_neg (by decide), if_neg (by decide)]; rintro w1 ⟨q, rfl, hC⟩; exact Chn.upon_pure (C := fun z => z = w1) rfl (fun F hF => by (go_simp <;> exact hF)), ?_⟩
      simp only [Act.put, List.setIfInBounds_toArray, List.set_cons_succ, List.set_cons_zero]
      refine ⟨by unfold RelJ.opP; rw [if_neg (by decide), if_neg (by decide)]; rintro w1 ⟨q, rfl, hC⟩; exact Chn.upon_pure (C := fun z => z = w1) rfl (fun F hF => by (go_simp <;> exact hF)), ?_⟩
      simp only [Act.put, List.setIfInBounds_toArray, List.set_cons_succ, List.set_cons_zero]
      refine ⟨by unfold RelJ.opP; rw [if_neg (by decide), if_neg (by decide)]; rintro w1 ⟨q, rfl, hC⟩; exact Chn.upon_pure (C := fun z => z = w1) rfl (fun F hF => by (go_simp <;> exact hF)), ?_⟩
      simp only [Act.put, List.setIfInBounds_toArray, List.set_cons_succ, List.set_cons_zero]
      refine ⟨by unfold RelJ.opP; rw [if_neg (by decide), if_neg (by decide)]; rintro w1 ⟨q, rfl, hC⟩; exact Chn.upon_pure (C := fun z => z = w1) rfl (fun F hF => by (go_simp <;> exact hF)), ?_⟩
      simp only [Act.put, List.setIfInBounds_toArray, List.set_cons_succ, List.set_cons_zero]
      intro w9 hC
      obtain ⟨q, rfl, Rq, G9, L9⟩ := hC
      clear hloc hc3 hc4 hc5 hc8
      simp only [tupAt]
      have B94 : Below w4.heap.size w4 w9 := B84.trans (G9.below B84.size hvL)
      have low9 : Below w.heap.size w w9 := B4.trans (B94.mono hsz4)
      have WA9 := WA.grow B94
      have WS9 : Wds w9 uS S := wds_of_own (own_of_block RS fun k hk => G9.block k (RS.lt k hk).2 (fun e => by
        rcases hap with h | h
        · rw [h] at hk; cases hk
        · exact h (hk.trans e.symm))) (by omega)
      obtain ⟨gq, cq, eq9, _, _, _, hcq, _⟩ := own_addr Rq (by decide)
      subst eq9
      have dq : w9.cell? ⟨gq, 0, none⟩ = some (v32 x) := by rw [hcq 0 (by decide)]; rfl
      obtain ⟨aS, cS, eS⟩ := WS9.len
      have hMx := WA9.max
      subst eS
      clear hcq Rq WA RS G9 B94 B84 L9 hvL hap
      go_wp2
      go_loopw [20] (fun s20 wr => wr = w9 ∧ ∃ k : Nat, k ≤ M.length ∧ s20 = vI k) (fun s20 _ => ((M.length : Int) - intOf s20).toNat)
      case atStart => exact ⟨rfl, 0, Nat.zero_le _, rfl⟩
      case round =>
        obtain ⟨rfl, k, hk, rfl⟩ := hrel
        by_cases hlt : (k : Int) < M.length
        · have hkl : k < M.length := by omega
          obtain ⟨z, hz⟩ : ∃ z, M[k]? = some z := ⟨M[k], List.getElem?_eq_getElem hkl⟩
          obtain ⟨g, off, cap', ev', hg, hcz⟩ := WA9.cell (by omega)
          cases ev'
          have hcy := hcz k z hz
          have ki := in_c WS9 z
          have hin : S.contains z = true := by simpa using m3 z (List.mem_of_getElem? hz)
          rw [hin] at ki
          clear hcz hin hz WA9 dq
          go_wp2_with (go_at_call 18; (with_reducible refine ki.mono ?_); clear ki; rintro e wz ⟨rfl, rfl⟩; dsimp only)
          go_roundw
          case rel => exact ⟨trivial, k + 1, by omega, by simp⟩
          case measure => simp [intOf]; omega
        · have ki := in_c WS9 x
          have hin : S.contains x = true := by simpa using m4
          rw [hin] at ki
          clear hin WA9 WS9
          go_wp2_with (go_at_call 18; (with_reducible refine ki.mono ?_); clear ki; rintro e wz ⟨rfl, rfl⟩; dsimp only)
          go_ret
          exact ⟨by simp, low9⟩
end Go.Proofs.Ytbdmemjenpnjgaa
