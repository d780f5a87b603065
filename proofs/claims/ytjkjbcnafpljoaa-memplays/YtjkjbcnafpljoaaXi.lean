/- W5, W6, W7, W8, W9 of the seat, joined. -/
import Derived.Test.YtjkjbcnafpljoaaXg
/- A step of the play: a store put. -/
namespace Go.Proofs.Ytjkjbcnafpljoaa
open Go.RowKit
set_option linter.unusedVariables false
set_option linter.unusedSimpArgs false

set_option maxRecDepth 8000 in
set_option maxHeartbeats 2000000 in
theorem step_5 (w0 : World) (wb g h : Nat) (o : St4) (S : Sta) (X : Doc) (w : World) (H0 : PS w0 wb g h S X w) (K : Lk S X) (hn : S.stamps.length ≤ 300) (ho : o.Ok) (hk : Hid (o.k = 5)) : Calls Try.prog 20 #[ptr wb 0, .agg #[vI o.k, vI o.c, vU o.a, vU o.v]] w fun e w' => e = .returned (.bool true) ∧ Done w0 wb g h S.stamps.length w' := by
  have hA := ho.a
  have a0 := hA.1
  have a1 := hA.2
  have hU0 : U64 0 := ⟨by decide, by decide⟩
  have hl := K.len
  have hst := K.reached
  have hr1 : S.reached ≤ S.stamps.length := by have := K.ok.cnt; omega
  have hr0 := K.st2.pos
  have hfl : X.first.length < 1000000000 := by rw [K.first]; have := K.ok.w2; omega
  have hb0 := K.bad0 o.c
  have hb1 := K.bad o.c o.a a0
  go_enter Try.func20, Try.ntmps20
  go_upto_region 1 with fail
  have H := H0.box o
  generalize w.heap.size = ob at H ⊢
  generalize hy : World.alloc w _ = y0
  have hy' : w.alloc (.cells #[vI o.k, vI o.c, vU o.a, vU o.v] 43) = y0 := hy
  rw [hy'] at H
  clear hy hy' H0
  obtain ⟨zg, zh, zk, zc, za, zv⟩ := H.cells
  obtain ⟨D, hD, lowD⟩ := H.doc
  go_quiet ((go_at_call 37; exact Calls.quiet_of_same (bad_c h X D o.c 0 _ (hD.keep fun _ _ => rfl) hU0 hfl)))
  replace H := H.drew nq
  replace hD := hD.grow (w' := y0.drewN nq) ⟨rfl, rfl, rfl, Nat.le_refl _, fun _ _ => rfl⟩
  generalize y0.drewN nq = y1 at H hD ⊢
  clear zg zh zk zc za zv
  obtain ⟨zg, zh, zk, zc, za, zv⟩ := H.cells
  go_upto_region 2 with fail
  go_quiet ((go_at_call 37; exact Calls.quiet_of_same (bad_c h X D o.c o.a _ (hD.keep fun _ _ => rfl) hA hfl)))
  replace H := H.drew nq
  generalize y1.drewN nq = y2 at H ⊢
  clear zg zh zk zc za zv hD lowD
  obtain ⟨zg, zh, zk, zc, za, zv⟩ := H.cells
  rw [hk.out] at zk
  cases hok : okB S o.c o.a
  · rw [hok] at hb1
    replace hb1 : badB X o.c o.a = true := hb1
    rw [hb1]
    have hT : putT S o.c o.a = 0 := by rw [putT, hok]; rfl
    have hS : putS S o.c o.a o.v = S := by rw [putS, hok]; rfl
    have hL : putL S o.c o.a = [] := by rw [putL, hok]; rfl
    go_upto_region 33 with fail
    refine RelJ.wp_region_call 10 (fun y => SW w0 wb g h ob o S X y) (fun u y => ∃ lv L, u = .tuple #[vI 0, lv, vI 1] ∧ FR w0 wb g h ob o S X [] L lv y) (fun u => [ptr wb 0, ptr wb 0, ptr wb 0, ptr g 0, ptr ob 1, vI o.c, ptr ob 2, vU o.a, ptr ob 3, vU o.v, u, u, ext u 0, ext u 1, ext u 2, ext u 0, ext u 1, ext u 2]) (by kernel_rfl) (by kernel_rfl) (by kernel_rfl) (by decide) (fun v q hq => by match q, hq with | 0, _ => rfl | 1, _ => rfl | 2, _ => rfl | 3, _ => rfl | 4, _ => rfl | 5, _ => rfl | 6, _ => rfl | 7, _ => rfl | 8, _ => rfl | 9, _ => rfl | n + 10, hq => exact absurd hq (by omega)) (fun v => rfl) (fun v => rfl) H.drew1 ?_
    intro u
    clear zg zh zk zc za zv
    iterate 10
      refine ⟨by
        rw [if_pos (by decide)]
        intro w1 hC
        obtain ⟨S9, X9, hz⟩ : ∃ S9 X9, SW w0 wb g h ob o S9 X9 w1 := hC.elim (fun hC => ⟨_, _, hC⟩) (fun ⟨u, lv, L, _, hr⟩ => ⟨_, _, hr.sw⟩)
        obtain ⟨zg, zh, zk, zc, za, zv⟩ := hz.cells
        exact Chn.upon_pure (C := fun y => y = w1) rfl (fun F hF => by (go_simp <;> exact hF)), ?_⟩
      simp only [Act.put, List.setIfInBounds_toArray, List.set_cons_succ, List.set_cons_zero]
    refine ⟨by
      rw [if_neg (by decide), if_pos rfl]
      intro w1 hC
      obtain ⟨L, M, low⟩ := SW.mem hC
      refine upon_of_call (put_c g S L o.c o.a o.v w1 M K.ok hA (by omega)) ?_ (fun F2 hF2 => by (go_simp <;> exact hF2))
      rintro e w2 ⟨v, rfl, T⟩
      rw [hS, hL] at T
      obtain ⟨L2, hR⟩ := SW.turnR hC M low T
      exact ⟨_, rfl, v, L2, by simp only [hT, hok, argE, if_true, Bool.false_eq_true, if_false], hR⟩, ?_⟩
    simp only [Act.put, List.setIfInBounds_toArray, List.set_cons_succ, List.set_cons_zero]
    iterate 7
      refine ⟨by
        rw [if_neg (by decide), if_neg (by decide)]
        intro w1 hF
        obtain ⟨lv, L, rfl, _⟩ := hF
        exact Chn.upon_pure (C := fun y => y = w1) rfl (fun F hF => by (go_simp <;> exact hF)), ?_⟩
      simp only [Act.put, List.setIfInBounds_toArray, List.set_cons_succ, List.set_cons_zero]
    intro y3 hF
    obtain ⟨lv, L, rfl, R⟩ := hF
    obtain ⟨la, lc, rfl⟩ := R.slice
    replace H := R.sw
    simp only [ext, Array.getD_eq_getD_getElem?]
    go_wp2
    go_ret
    exact ⟨rfl, S, X, H.ps, K, by omega⟩
  · rw [hok] at hb1
    replace hb1 : badB X o.c o.a = false := hb1
    rw [hb1]
    have hc : hasCoreB S o.c = true := by simp only [okB, Bool.and_eq_true] at hok; exact hok.1
    have K2 := lk_put K o.v a0 hok
    have hlat := K.latesP o.a o.v hc
    have hbl := (K.held hc).2
    have hfl2 : (flushS S o.c).stamps.length = S.stamps.length := (dr_len S o.c _).2.1
    have hpl : (putS S o.c o.a o.v).stamps.length ≤ S.stamps.length + 1 := by
      rw [putS, hok, if_pos rfl]
      simp only [reachS, List.length_set, List.length_append, List.length_singleton, hfl2]
      omega
    have hx2 : (flushDS X o.c).all.length = X.all.length := (drD_len X o.c _).1
    have hx3 : (putDS X o.c o.a o.v).all.length = X.all.length + 1 := by rw [putDS]; simp [hx2]
    have hb8 : (bufOf S o.c).length < 1000000 := by have := heldF_len o.c X.all 0; have e : (heldF o.c X.all 0).length = (bufOf S o.c).length := hbl; omega
    obtain ⟨t, ht⟩ : ∃ t, t = (S.stamps.length : Int) + 1 := ⟨_, rfl⟩
    have hT : putT S o.c o.a = t := by rw [putT, hok, ht]; rfl
    have ht2 : (X.all.length : Int) + 1 = t := by rw [hl, ht]
    have hL : putL S o.c o.a = bufOf S o.c := by rw [putL, hok]; rfl
    replace ht := show Hid _ from ht
    go_upto_region 33 with fail
    refine RelJ.wp_region_call 10 (fun y => SW w0 wb g h ob o S X y) (fun u y => ∃ lv L, u = .tuple #[vI t, lv, vI 0] ∧ FR w0 wb g h ob o (putS S o.c o.a o.v) X (bufOf S o.c) L lv y) (fun u => [ptr wb 0, ptr wb 0, ptr wb 0, ptr g 0, ptr ob 1, vI o.c, ptr ob 2, vU o.a, ptr ob 3, vU o.v, u, u, ext u 0, ext u 1, ext u 2, ext u 0, ext u 1, ext u 2]) (by kernel_rfl) (by kernel_rfl) (by kernel_rfl) (by decide) (fun v q hq => by match q, hq with | 0, _ => rfl | 1, _ => rfl | 2, _ => rfl | 3, _ => rfl | 4, _ => rfl | 5, _ => rfl | 6, _ => rfl | 7, _ => rfl | 8, _ => rfl | 9, _ => rfl | n + 10, hq => exact absurd hq (by omega)) (fun v => rfl) (fun v => rfl) H.drew1 ?_
    intro u
    clear zg zh zk zc za zv
    iterate 10
      refine ⟨by
        rw [if_pos (by decide)]
        intro w1 hC
        obtain ⟨S9, X9, hz⟩ : ∃ S9 X9, SW w0 wb g h ob o S9 X9 w1 := hC.elim (fun hC => ⟨_, _, hC⟩) (fun ⟨u, lv, L, _, hr⟩ => ⟨_, _, hr.sw⟩)
        obtain ⟨zg, zh, zk, zc, za, zv⟩ := hz.cells
        exact Chn.upon_pure (C := fun y => y = w1) rfl (fun F hF => by (go_simp <;> exact hF)), ?_⟩
      simp only [Act.put, List.setIfInBounds_toArray, List.set_cons_succ, List.set_cons_zero]
    refine ⟨by
      rw [if_neg (by decide), if_pos rfl]
      intro w1 hC
      obtain ⟨L, M, low⟩ := SW.mem hC
      refine upon_of_call (put_c g S L o.c o.a o.v w1 M K.ok hA (by omega)) ?_ (fun F2 hF2 => by (go_simp <;> exact hF2))
      rintro e w2 ⟨v, rfl, T⟩
      rw [hL] at T
      obtain ⟨L2, hR⟩ := SW.turnR hC M low T
      exact ⟨_, rfl, v, L2, by simp only [hT, hok, argE, if_true, Bool.false_eq_true, if_false], hR⟩, ?_⟩
    simp only [Act.put, List.setIfInBounds_toArray, List.set_cons_succ, List.set_cons_zero]
    iterate 7
      refine ⟨by
        rw [if_neg (by decide), if_neg (by decide)]
        intro w1 hF
        obtain ⟨lv, L, rfl, _⟩ := hF
        exact Chn.upon_pure (C := fun y => y = w1) rfl (fun F hF => by (go_simp <;> exact hF)), ?_⟩
      simp only [Act.put, List.setIfInBounds_toArray, List.set_cons_succ, List.set_cons_zero]
    intro y3 hF
    obtain ⟨lv, L, rfl, R⟩ := hF
    obtain ⟨la, lc, rfl⟩ := R.slice
    clear H
    obtain ⟨zg, zh, zk, zc, za, zv⟩ := R.sw.cells
    simp only [ext, Array.getD_eq_getD_getElem?]
    go_upto_region 36 with fail
    refine RelJ.wp_region_call 10 (fun y => FR w0 wb g h ob o (putS S o.c o.a o.v) X (bufOf S o.c) L (.slice la (bufOf S o.c).length lc) y) (fun u y => ∃ ta tc, u = .tuple #[vI t, .slice ta (bufOf S o.c).length tc] ∧ FR w0 wb g h ob o (putS S o.c o.a o.v) (putDS X o.c o.a o.v) (bufOf S o.c) L (.slice la (bufOf S o.c).length lc) y ∧ y.ownsRow w0.heap.size 3 1 (.slice ta (bufOf S o.c).length tc) (bufOf S o.c).length ((heldD X o.c).map vI)) (fun u => [ptr wb 0, ptr wb 0, ptr wb 1, ptr h 0, ptr ob 1, vI o.c, ptr ob 2, vU o.a, ptr ob 3, vU o.v, u, u, ext u 0, ext u 1, ext u 0, ext u 1]) (by kernel_rfl) (by kernel_rfl) (by kernel_rfl) (by decide) (fun v q hq => by match q, hq with | 0, _ => rfl | 1, _ => rfl | 2, _ => rfl | 3, _ => rfl | 4, _ => rfl | 5, _ => rfl | 6, _ => rfl | 7, _ => rfl | 8, _ => rfl | 9, _ => rfl | n + 10, hq => exact absurd hq (by omega)) (fun v => rfl) (fun v => rfl) R.drew1 ?_
    intro u
    clear zg zh zk zc za zv
    iterate 10
      refine ⟨by
        rw [if_pos (by decide)]
        intro w1 hC
        obtain ⟨S9, X9, hz⟩ : ∃ S9 X9, SW w0 wb g h ob o S9 X9 w1 := hC.elim (fun hC => ⟨_, _, FR.sw hC⟩) (fun ⟨u, ta, tc, _, hr, _⟩ => ⟨_, _, hr.sw⟩)
        obtain ⟨zg, zh, zk, zc, za, zv⟩ := hz.cells
        exact Chn.upon_pure (C := fun y => y = w1) rfl (fun F hF => by (go_simp <;> exact hF)), ?_⟩
      simp only [Act.put, List.setIfInBounds_toArray, List.set_cons_succ, List.set_cons_zero]
    refine ⟨by
      rw [if_neg (by decide), if_pos rfl]
      intro w1 hC
      have hC2 : FR w0 wb g h ob o (putS S o.c o.a o.v) X (bufOf S o.c) L (.slice la (bufOf S o.c).length lc) w1 := hC
      obtain ⟨D, hD, lowD⟩ := hC2.sw.doc
      refine upon_of_call (putD_c h X D o.c o.a o.v w1 hD (by omega) (by omega) (by omega)) ?_ (fun F2 hF2 => by (go_simp <;> exact hF2))
      rintro e w2 ⟨ta, tc, rfl, T, R2⟩
      rw [hbl] at R2 ⊢
      rw [ht2]
      exact ⟨_, rfl, ta, tc, rfl, hC2.docTurn hD lowD T, own_mono R2 hC2.sw.below.size⟩, ?_⟩
    simp only [Act.put, List.setIfInBounds_toArray, List.set_cons_succ, List.set_cons_zero]
    iterate 5
      refine ⟨by
        rw [if_neg (by decide), if_neg (by decide)]
        intro w1 hF
        obtain ⟨ta, tc, rfl, _⟩ := hF
        exact Chn.upon_pure (C := fun y => y = w1) rfl (fun F hF => by (go_simp <;> exact hF)), ?_⟩
      simp only [Act.put, List.setIfInBounds_toArray, List.set_cons_succ, List.set_cons_zero]
    intro y4 hF
    obtain ⟨ta, tc, rfl, R3, R4⟩ := hF
    obtain ⟨D, hD, lowD⟩ := R3.sw.doc
    simp only [ext, Array.getD_eq_getD_getElem?]
    go_upto_region 38 with (go_at_call 43; refine (lates_c wb g h (putDS X o.c o.a o.v) D (bufOf S o.c) (heldD X o.c) la ta lc tc w0.heap.size w0.heap.size (bufOf S o.c).length _ hD R3.sw.wb (by omega) rfl hbl hb8 R3.row R4 hlat).mono ?_; rintro e y5 ⟨rfl, G⟩; dsimp only)
    replace H := R3.lated G
    go_wp2
    go_ret
    exact ⟨rfl, _, _, H.ps, K2, hpl⟩
end Go.Proofs.Ytjkjbcnafpljoaa
/- A step of the play: a fetch. -/
namespace Go.Proofs.Ytjkjbcnafpljoaa
open Go.RowKit
set_option linter.unusedVariables false
set_option linter.unusedSimpArgs false

set_option maxRecDepth 8000 in
set_option maxHeartbeats 2000000 in
theorem step_6 (w0 : World) (wb g h : Nat) (o : St4) (S : Sta) (X : Doc) (w : World) (H0 : PS w0 wb g h S X w) (K : Lk S X) (hn : S.stamps.length ≤ 300) (ho : o.Ok) (hk : Hid (o.k = 6)) : Calls Try.prog 20 #[ptr wb 0, .agg #[vI o.k, vI o.c, vU o.a, vU o.v]] w fun e w' => e = .returned (.bool true) ∧ Done w0 wb g h S.stamps.length w' := by
  have hA := ho.a
  have a0 := hA.1
  have a1 := hA.2
  have hU0 : U64 0 := ⟨by decide, by decide⟩
  have hl := K.len
  have hst := K.reached
  have hr1 : S.reached ≤ S.stamps.length := by have := K.ok.cnt; omega
  have hr0 := K.st2.pos
  have hfl : X.first.length < 1000000000 := by rw [K.first]; have := K.ok.w2; omega
  have hb0 := K.bad0 o.c
  have hb1 := K.bad o.c o.a a0
  go_enter Try.func20, Try.ntmps20
  go_upto_region 1 with fail
  have H := H0.box o
  generalize w.heap.size = ob at H ⊢
  generalize hy : World.alloc w _ = y0
  have hy' : w.alloc (.cells #[vI o.k, vI o.c, vU o.a, vU o.v] 43) = y0 := hy
  rw [hy'] at H
  clear hy hy' H0
  obtain ⟨zg, zh, zk, zc, za, zv⟩ := H.cells
  obtain ⟨D, hD, lowD⟩ := H.doc
  go_quiet ((go_at_call 37; exact Calls.quiet_of_same (bad_c h X D o.c 0 _ (hD.keep fun _ _ => rfl) hU0 hfl)))
  replace H := H.drew nq
  replace hD := hD.grow (w' := y0.drewN nq) ⟨rfl, rfl, rfl, Nat.le_refl _, fun _ _ => rfl⟩
  generalize y0.drewN nq = y1 at H hD ⊢
  clear zg zh zk zc za zv
  obtain ⟨zg, zh, zk, zc, za, zv⟩ := H.cells
  go_upto_region 2 with fail
  go_quiet ((go_at_call 37; exact Calls.quiet_of_same (bad_c h X D o.c o.a _ (hD.keep fun _ _ => rfl) hA hfl)))
  replace H := H.drew nq
  generalize y1.drewN nq = y2 at H ⊢
  clear zg zh zk zc za zv hD lowD
  obtain ⟨zg, zh, zk, zc, za, zv⟩ := H.cells
  rw [hk.out] at zk
  have hw8 := K.ok.w2
  have t8 : o.a.tmod 8 = o.a % 8 := Int.tmod_eq_emod_of_nonneg a0
  have w8 : IntKind.u64.wrap (o.a % 8) = o.a % 8 := by rw [IntKind.wrap_u64]; omega
  have t4 : o.a.tmod 4 = o.a % 4 := Int.tmod_eq_emod_of_nonneg a0
  have w4 : IntKind.u64.wrap (o.a % 4) = o.a % 4 := by rw [IntKind.wrap_u64]; omega
  obtain ⟨A, hAe⟩ : ∃ A, A = o.a - o.a % 8 := ⟨_, rfl⟩
  have ws : IntKind.u64.wrap (o.a - o.a % 8) = A := by rw [IntKind.wrap_u64]; omega
  have hAA : U64 A := ⟨by omega, by omega⟩
  have hb2 := K.bad 0 A hAA.1
  have hc0 : hasCoreB S 0 = true := by simp only [hasCoreB, Bool.and_eq_true, decide_eq_true_eq]; have := K.ok.c1; omega
  have hwA : hasWordB S A = withinB S o.a := by
    have e1 : (A % 8 == 0) = true := by simp; omega
    rw [hasWordB, e1, Bool.true_and, withinB, withinB, Bool.eq_iff_iff, decide_eq_true_eq, decide_eq_true_eq]
    omega
  rw [okB, hc0, Bool.true_and, hwA] at hb2
  cases hw : withinB S o.a
  · rw [hw] at hb2
    have hoff : badB X 0 A = true := hb2
    have hf2 : fetchOk S o.a = false := by rw [fetchOk, hw, Bool.and_false]
    have hf1 : fetchV S o.a = 0 := by rw [fetchV, hf2]; rfl
    replace hAe := show Hid _ from hAe
    go_upto_region 40 with fail
    refine Chn.wp_region_chain (fun n y => SW w0 wb g h ob o S X y) [6] [ptr wb 0, ptr wb 0, ptr wb 0, ptr g 0, ptr ob 2, vU o.a, .tuple #[.int .u32 0, vI 1], .tuple #[.int .u32 0, vI 1], .int .u32 0, vI 1, .int .u32 0, vI 1] (by kernel_rfl) (by kernel_rfl) (by kernel_rfl) (by kernel_rfl) H.drew1 ?_
    clear zg zh zk zc za zv
    iterate 6
      refine ⟨fun j w1 hC => by obtain ⟨zg, zh, zk, zc, za, zv⟩ := SW.cells hC; exact Chn.upon_pure hC (fun F hF => by (go_simp <;> exact hF)), ?_⟩
      simp only [Act.put, List.setIfInBounds_toArray, List.set_cons_succ, List.set_cons_zero]
    refine ⟨fun w1 hC => by
      have hC2 : SW w0 wb g h ob o S X w1 := hC
      obtain ⟨L, M, low⟩ := hC2.mem
      obtain ⟨D, hD, lowD⟩ := hC2.doc
      refine upon_of_call (fetch_c g S L o.a w1 M hw8 hA) ?_ (fun F2 hF2 => by (go_simp <;> exact hF2))
      rintro e w2 ⟨rfl, rfl⟩
      exact ⟨_, rfl, by simp only [hf1, hf2, argE, if_true, Bool.false_eq_true, if_false], hC2⟩, ?_⟩
    simp only [Act.put, List.setIfInBounds_toArray, List.set_cons_succ, List.set_cons_zero]
    iterate 5
      refine ⟨fun j w1 hC => by exact Chn.upon_pure hC (fun F hF => by (go_simp <;> exact hF)), ?_⟩
      simp only [Act.put, List.setIfInBounds_toArray, List.set_cons_succ, List.set_cons_zero]
    intro y3 hC
    replace H : SW w0 wb g h ob o S X y3 := hC
    clear hC
    obtain ⟨zg, zh, zk, zc, za, zv⟩ := H.cells
    go_upto_region 41 with fail
    obtain ⟨D, hD, lowD⟩ := H.doc
    go_quiet ((go_at_call 37; exact Calls.quiet_of_same (bad_c h X D 0 A _ (hD.keep fun _ _ => rfl) hAA hfl)))
    rw [hoff]
    replace H := H.drew nq
    generalize y3.drewN nq = y5 at H ⊢
    clear zg zh zk zc za zv hD lowD
    obtain ⟨zg, zh, zk, zc, za, zv⟩ := H.cells
    go_wp2
    go_ret
    exact ⟨rfl, S, X, H.ps, K, by omega⟩
  · rw [hw] at hb2
    have hoff : badB X 0 A = false := hb2
    by_cases h4 : o.a % 4 = 0
    · have h4' : (o.a % 4 != 0) = false := by simpa using h4
      have hf2 : fetchOk S o.a = true := by rw [fetchOk, hw, Bool.and_true]; simpa using h4
      have hwd := (bad_word hoff).2.2.2
      have hk8 : (o.a / 8).toNat < S.words.length := by simp only [withinB, decide_eq_true_eq] at hw; omega
      have hgw : (S.words.getD (o.a / 8).toNat (0, 0)).1 = (pkD X A).1 := by
        have := K.words _ hk8
        rw [show 8 * (((o.a / 8).toNat : Nat) : Int) = A by omega] at this
        rw [List.getD_eq_getElem?_getD, this]; rfl
      obtain ⟨fv, hfv⟩ : ∃ fv, fv = fetchV S o.a := ⟨_, rfl⟩
      have hf1 : fetchV S o.a = fv := hfv.symm
      rw [fetchV, hf2, if_pos rfl, hgw] at hfv
      generalize hq : pkD X A = q at hfv hgw
      replace hfv := show Hid _ from hfv
      replace hAe := show Hid _ from hAe
      replace h4 := show Hid _ from h4
      go_upto_region 40 with fail
      refine Chn.wp_region_chain (fun n y => SW w0 wb g h ob o S X y) [6] [ptr wb 0, ptr wb 0, ptr wb 0, ptr g 0, ptr ob 2, vU o.a, .tuple #[.int .u32 fv, vI 0], .tuple #[.int .u32 fv, vI 0], .int .u32 fv, vI 0, .int .u32 fv, vI 0] (by kernel_rfl) (by kernel_rfl) (by kernel_rfl) (by kernel_rfl) H.drew1 ?_
      clear zg zh zk zc za zv
      iterate 6
        refine ⟨fun j w1 hC => by obtain ⟨zg, zh, zk, zc, za, zv⟩ := SW.cells hC; exact Chn.upon_pure hC (fun F hF => by (go_simp <;> exact hF)), ?_⟩
        simp only [Act.put, List.setIfInBounds_toArray, List.set_cons_succ, List.set_cons_zero]
      refine ⟨fun w1 hC => by
        have hC2 : SW w0 wb g h ob o S X w1 := hC
        obtain ⟨L, M, low⟩ := hC2.mem
        obtain ⟨D, hD, lowD⟩ := hC2.doc
        refine upon_of_call (fetch_c g S L o.a w1 M hw8 hA) ?_ (fun F2 hF2 => by (go_simp <;> exact hF2))
        rintro e w2 ⟨rfl, rfl⟩
        exact ⟨_, rfl, by simp only [hf1, hf2, argE, if_true, Bool.false_eq_true, if_false], hC2⟩, ?_⟩
      simp only [Act.put, List.setIfInBounds_toArray, List.set_cons_succ, List.set_cons_zero]
      iterate 5
        refine ⟨fun j w1 hC => by exact Chn.upon_pure hC (fun F hF => by (go_simp <;> exact hF)), ?_⟩
        simp only [Act.put, List.setIfInBounds_toArray, List.set_cons_succ, List.set_cons_zero]
      intro y3 hC
      replace H : SW w0 wb g h ob o S X y3 := hC
      clear hC
      obtain ⟨zg, zh, zk, zc, za, zv⟩ := H.cells
      go_upto_region 41 with fail
      obtain ⟨D, hD, lowD⟩ := H.doc
      go_quiet ((go_at_call 37; exact Calls.quiet_of_same (bad_c h X D 0 A _ (hD.keep fun _ _ => rfl) hAA hfl)))
      rw [hoff]
      replace H := H.drew nq
      generalize y3.drewN nq = y5 at H ⊢
      clear zg zh zk zc za zv hD lowD
      obtain ⟨zg, zh, zk, zc, za, zv⟩ := H.cells
      go_upto_region 44 with fail
      refine Chn.wp_region_chain (fun n y => SW w0 wb g h ob o S X y) [10] [ptr wb 0, ptr wb 0, ptr wb 1, ptr h 0, ptr ob 2, vU o.a, ptr ob 2, vU o.a, vU (o.a % 8), vU A, .tuple #[vU q.1, vI q.2.1], .tuple #[vU q.1, vI q.2.1], vU q.1, vI q.2.1, vU q.1, vI q.2.1] (by kernel_rfl) (by kernel_rfl) (by kernel_rfl) (by kernel_rfl) H.drew1 ?_
      clear zg zh zk zc za zv
      iterate 10
        refine ⟨fun j w1 hC => by obtain ⟨zg, zh, zk, zc, za, zv⟩ := SW.cells hC; exact Chn.upon_pure hC (fun F hF => by (go_simp <;> exact hF)), ?_⟩
        simp only [Act.put, List.setIfInBounds_toArray, List.set_cons_succ, List.set_cons_zero]
      refine ⟨fun w1 hC => by
        have hC2 : SW w0 wb g h ob o S X w1 := hC
        obtain ⟨L, M, low⟩ := hC2.mem
        obtain ⟨D, hD, lowD⟩ := hC2.doc
        refine upon_of_call (peekD_c h X D A w1 hD hAA hwd (by omega)) ?_ (fun F2 hF2 => by (go_simp <;> exact hF2))
        rintro e w2 ⟨rfl, hB⟩
        exact ⟨_, rfl, by simp only [hq], hC2.grow hB⟩, ?_⟩
      simp only [Act.put, List.setIfInBounds_toArray, List.set_cons_succ, List.set_cons_zero]
      iterate 5
        refine ⟨fun j w1 hC => by exact Chn.upon_pure hC (fun F hF => by (go_simp <;> exact hF)), ?_⟩
        simp only [Act.put, List.setIfInBounds_toArray, List.set_cons_succ, List.set_cons_zero]
      intro y6 hC
      replace H : SW w0 wb g h ob o S X y6 := hC
      clear hC
      obtain ⟨zg, zh, zk, zc, za, zv⟩ := H.cells
      by_cases h8 : o.a % 8 = 4
      · have h8' : (o.a % 8 == 4) = true := by simpa using h8
        have hfv2 := hfv.out
        rw [if_pos h8] at hfv2
        subst hfv2
        replace h8 := show Hid _ from h8
        go_wp2
        go_ret
        exact ⟨rfl, S, X, H.ps, K, by omega⟩
      · have h8' : (o.a % 8 == 4) = false := by simpa using h8
        have hfv2 := hfv.out
        rw [if_neg h8] at hfv2
        subst hfv2
        go_wp2
        go_ret
        exact ⟨rfl, S, X, H.ps, K, by omega⟩
    · have h4' : (o.a % 4 != 0) = true := by simpa using h4
      have hf2 : fetchOk S o.a = false := by
        rw [fetchOk, hw, Bool.and_true]; simpa using h4
      have hf1 : fetchV S o.a = 0 := by rw [fetchV, hf2]; rfl
      replace hAe := show Hid _ from hAe
      go_upto_region 40 with fail
      refine Chn.wp_region_chain (fun n y => SW w0 wb g h ob o S X y) [6] [ptr wb 0, ptr wb 0, ptr wb 0, ptr g 0, ptr ob 2, vU o.a, .tuple #[.int .u32 0, vI 1], .tuple #[.int .u32 0, vI 1], .int .u32 0, vI 1, .int .u32 0, vI 1] (by kernel_rfl) (by kernel_rfl) (by kernel_rfl) (by kernel_rfl) H.drew1 ?_
      clear zg zh zk zc za zv
      iterate 6
        refine ⟨fun j w1 hC => by obtain ⟨zg, zh, zk, zc, za, zv⟩ := SW.cells hC; exact Chn.upon_pure hC (fun F hF => by (go_simp <;> exact hF)), ?_⟩
        simp only [Act.put, List.setIfInBounds_toArray, List.set_cons_succ, List.set_cons_zero]
      refine ⟨fun w1 hC => by
        have hC2 : SW w0 wb g h ob o S X w1 := hC
        obtain ⟨L, M, low⟩ := hC2.mem
        obtain ⟨D, hD, lowD⟩ := hC2.doc
        refine upon_of_call (fetch_c g S L o.a w1 M hw8 hA) ?_ (fun F2 hF2 => by (go_simp <;> exact hF2))
        rintro e w2 ⟨rfl, rfl⟩
        exact ⟨_, rfl, by simp only [hf1, hf2, argE, if_true, Bool.false_eq_true, if_false], hC2⟩, ?_⟩
      simp only [Act.put, List.setIfInBounds_toArray, List.set_cons_succ, List.set_cons_zero]
      iterate 5
        refine ⟨fun j w1 hC => by exact Chn.upon_pure hC (fun F hF => by (go_simp <;> exact hF)), ?_⟩
        simp only [Act.put, List.setIfInBounds_toArray, List.set_cons_succ, List.set_cons_zero]
      intro y3 hC
      replace H : SW w0 wb g h ob o S X y3 := hC
      clear hC
      obtain ⟨zg, zh, zk, zc, za, zv⟩ := H.cells
      go_upto_region 41 with fail
      obtain ⟨D, hD, lowD⟩ := H.doc
      go_quiet ((go_at_call 37; exact Calls.quiet_of_same (bad_c h X D 0 A _ (hD.keep fun _ _ => rfl) hAA hfl)))
      rw [hoff]
      replace H := H.drew nq
      generalize y3.drewN nq = y5 at H ⊢
      clear zg zh zk zc za zv hD lowD
      obtain ⟨zg, zh, zk, zc, za, zv⟩ := H.cells
      go_wp2
      go_ret
      exact ⟨rfl, S, X, H.ps, K, by omega⟩
end Go.Proofs.Ytjkjbcnafpljoaa
/- A step of the play: a word looked at. -/
namespace Go.Proofs.Ytjkjbcnafpljoaa
open Go.RowKit
set_option linter.unusedVariables false
set_option linter.unusedSimpArgs false

set_option maxRecDepth 8000 in
set_option maxHeartbeats 2000000 in
theorem step_7 (w0 : World) (wb g h : Nat) (o : St4) (S : Sta) (X : Doc) (w : World) (H0 : PS w0 wb g h S X w) (K : Lk S X) (hn : S.stamps.length ≤ 300) (ho : o.Ok) (hk : Hid (o.k = 7)) : Calls Try.prog 20 #[ptr wb 0, .agg #[vI o.k, vI o.c, vU o.a, vU o.v]] w fun e w' => e = .returned (.bool true) ∧ Done w0 wb g h S.stamps.length w' := by
  have hA := ho.a
  have a0 := hA.1
  have a1 := hA.2
  have hU0 : U64 0 := ⟨by decide, by decide⟩
  have hl := K.len
  have hst := K.reached
  have hr1 : S.reached ≤ S.stamps.length := by have := K.ok.cnt; omega
  have hr0 := K.st2.pos
  have hfl : X.first.length < 1000000000 := by rw [K.first]; have := K.ok.w2; omega
  have hb0 := K.bad0 o.c
  have hb1 := K.bad o.c o.a a0
  go_enter Try.func20, Try.ntmps20
  go_upto_region 1 with fail
  have H := H0.box o
  generalize w.heap.size = ob at H ⊢
  generalize hy : World.alloc w _ = y0
  have hy' : w.alloc (.cells #[vI o.k, vI o.c, vU o.a, vU o.v] 43) = y0 := hy
  rw [hy'] at H
  clear hy hy' H0
  obtain ⟨zg, zh, zk, zc, za, zv⟩ := H.cells
  obtain ⟨D, hD, lowD⟩ := H.doc
  go_quiet ((go_at_call 37; exact Calls.quiet_of_same (bad_c h X D o.c 0 _ (hD.keep fun _ _ => rfl) hU0 hfl)))
  replace H := H.drew nq
  replace hD := hD.grow (w' := y0.drewN nq) ⟨rfl, rfl, rfl, Nat.le_refl _, fun _ _ => rfl⟩
  generalize y0.drewN nq = y1 at H hD ⊢
  clear zg zh zk zc za zv
  obtain ⟨zg, zh, zk, zc, za, zv⟩ := H.cells
  go_upto_region 2 with fail
  go_quiet ((go_at_call 37; exact Calls.quiet_of_same (bad_c h X D o.c o.a _ (hD.keep fun _ _ => rfl) hA hfl)))
  replace H := H.drew nq
  generalize y1.drewN nq = y2 at H ⊢
  clear zg zh zk zc za zv hD lowD
  obtain ⟨zg, zh, zk, zc, za, zv⟩ := H.cells
  rw [hk.out] at zk
  have hw8 := K.ok.w2
  have hb2 := K.bad 0 o.a a0
  have hc0 : hasCoreB S 0 = true := by simp only [hasCoreB, Bool.and_eq_true, decide_eq_true_eq]; have := K.ok.c1; omega
  rw [okB, hc0, Bool.true_and] at hb2
  cases hw : hasWordB S o.a
  · rw [hw] at hb2
    replace hb2 : badB X 0 o.a = true := hb2
    have hp1 : peekV S o.a = 0 := by rw [peekV, hw]; rfl
    have hp2 : peekT S o.a = 0 := by rw [peekT, hw]; rfl
    go_upto_region 49 with fail
    refine Chn.wp_region_chain (fun n y => SW w0 wb g h ob o S X y) [6] [ptr wb 0, ptr wb 0, ptr wb 0, ptr g 0, ptr ob 2, vU o.a, .tuple #[vU 0, vI 0, vI 1], .tuple #[vU 0, vI 0, vI 1], vU 0, vI 0, vI 1, vU 0, vI 0, vI 1] (by kernel_rfl) (by kernel_rfl) (by kernel_rfl) (by kernel_rfl) H.drew1 ?_
    clear zg zh zk zc za zv
    iterate 6
      refine ⟨fun j w1 hC => by obtain ⟨zg, zh, zk, zc, za, zv⟩ := SW.cells hC; exact Chn.upon_pure hC (fun F hF => by (go_simp <;> exact hF)), ?_⟩
      simp only [Act.put, List.setIfInBounds_toArray, List.set_cons_succ, List.set_cons_zero]
    refine ⟨fun w1 hC => by
      have hC2 : SW w0 wb g h ob o S X w1 := hC
      obtain ⟨L, M, low⟩ := hC2.mem
      obtain ⟨D, hD, lowD⟩ := hC2.doc
      refine upon_of_call (peek_c g S L o.a w1 M hw8 hA) ?_ (fun F2 hF2 => by (go_simp <;> exact hF2))
      rintro e w2 ⟨rfl, hB⟩
      exact ⟨_, rfl, by simp only [hp1, hp2, hw, argE, if_true, Bool.false_eq_true, if_false], hC2.grow hB⟩, ?_⟩
    simp only [Act.put, List.setIfInBounds_toArray, List.set_cons_succ, List.set_cons_zero]
    iterate 7
      refine ⟨fun j w1 hC => by exact Chn.upon_pure hC (fun F hF => by (go_simp <;> exact hF)), ?_⟩
      simp only [Act.put, List.setIfInBounds_toArray, List.set_cons_succ, List.set_cons_zero]
    intro y3 hC
    replace H : SW w0 wb g h ob o S X y3 := hC
    clear hC
    obtain ⟨zg, zh, zk, zc, za, zv⟩ := H.cells
    go_upto_region 50 with fail
    obtain ⟨D, hD, lowD⟩ := H.doc
    go_quiet ((go_at_call 37; exact Calls.quiet_of_same (bad_c h X D 0 o.a _ (hD.keep fun _ _ => rfl) hA hfl)))
    rw [hb2]
    replace H := H.drew nq
    generalize y3.drewN nq = y5 at H ⊢
    clear zg zh zk zc za zv hD lowD
    obtain ⟨zg, zh, zk, zc, za, zv⟩ := H.cells
    go_wp2
    go_ret
    exact ⟨rfl, S, X, H.ps, K, by omega⟩
  · rw [hw] at hb2
    replace hb2 : badB X 0 o.a = false := hb2
    have hwd := (bad_word hb2).2.2.2
    obtain ⟨hp1, hp2⟩ := K.peek a0 hw
    generalize hq : pkD X o.a = q at hp1 hp2
    go_upto_region 49 with fail
    refine Chn.wp_region_chain (fun n y => SW w0 wb g h ob o S X y) [6] [ptr wb 0, ptr wb 0, ptr wb 0, ptr g 0, ptr ob 2, vU o.a, .tuple #[vU q.1, vI q.2.1, vI 0], .tuple #[vU q.1, vI q.2.1, vI 0], vU q.1, vI q.2.1, vI 0, vU q.1, vI q.2.1, vI 0] (by kernel_rfl) (by kernel_rfl) (by kernel_rfl) (by kernel_rfl) H.drew1 ?_
    clear zg zh zk zc za zv
    iterate 6
      refine ⟨fun j w1 hC => by obtain ⟨zg, zh, zk, zc, za, zv⟩ := SW.cells hC; exact Chn.upon_pure hC (fun F hF => by (go_simp <;> exact hF)), ?_⟩
      simp only [Act.put, List.setIfInBounds_toArray, List.set_cons_succ, List.set_cons_zero]
    refine ⟨fun w1 hC => by
      have hC2 : SW w0 wb g h ob o S X w1 := hC
      obtain ⟨L, M, low⟩ := hC2.mem
      obtain ⟨D, hD, lowD⟩ := hC2.doc
      refine upon_of_call (peek_c g S L o.a w1 M hw8 hA) ?_ (fun F2 hF2 => by (go_simp <;> exact hF2))
      rintro e w2 ⟨rfl, hB⟩
      exact ⟨_, rfl, by simp only [hp1, hp2, hw, argE, if_true, Bool.false_eq_true, if_false], hC2.grow hB⟩, ?_⟩
    simp only [Act.put, List.setIfInBounds_toArray, List.set_cons_succ, List.set_cons_zero]
    iterate 7
      refine ⟨fun j w1 hC => by exact Chn.upon_pure hC (fun F hF => by (go_simp <;> exact hF)), ?_⟩
      simp only [Act.put, List.setIfInBounds_toArray, List.set_cons_succ, List.set_cons_zero]
    intro y3 hC
    replace H : SW w0 wb g h ob o S X y3 := hC
    clear hC
    obtain ⟨zg, zh, zk, zc, za, zv⟩ := H.cells
    go_upto_region 50 with fail
    obtain ⟨D, hD, lowD⟩ := H.doc
    go_quiet ((go_at_call 37; exact Calls.quiet_of_same (bad_c h X D 0 o.a _ (hD.keep fun _ _ => rfl) hA hfl)))
    rw [hb2]
    replace H := H.drew nq
    generalize y3.drewN nq = y5 at H ⊢
    clear zg zh zk zc za zv hD lowD
    obtain ⟨zg, zh, zk, zc, za, zv⟩ := H.cells
    go_upto_region 53 with fail
    refine Chn.wp_region_chain (fun n y => SW w0 wb g h ob o S X y) [6] [ptr wb 0, ptr wb 0, ptr wb 1, ptr h 0, ptr ob 2, vU o.a, .tuple #[vU q.1, vI q.2.1], .tuple #[vU q.1, vI q.2.1], vU q.1, vI q.2.1, vU q.1, vI q.2.1] (by kernel_rfl) (by kernel_rfl) (by kernel_rfl) (by kernel_rfl) H.drew1 ?_
    clear zg zh zk zc za zv
    iterate 6
      refine ⟨fun j w1 hC => by obtain ⟨zg, zh, zk, zc, za, zv⟩ := SW.cells hC; exact Chn.upon_pure hC (fun F hF => by (go_simp <;> exact hF)), ?_⟩
      simp only [Act.put, List.setIfInBounds_toArray, List.set_cons_succ, List.set_cons_zero]
    refine ⟨fun w1 hC => by
      have hC2 : SW w0 wb g h ob o S X w1 := hC
      obtain ⟨L, M, low⟩ := hC2.mem
      obtain ⟨D, hD, lowD⟩ := hC2.doc
      refine upon_of_call (peekD_c h X D o.a w1 hD hA hwd (by omega)) ?_ (fun F2 hF2 => by (go_simp <;> exact hF2))
      rintro e w2 ⟨rfl, hB⟩
      exact ⟨_, rfl, by simp only [hq], hC2.grow hB⟩, ?_⟩
    simp only [Act.put, List.setIfInBounds_toArray, List.set_cons_succ, List.set_cons_zero]
    iterate 5
      refine ⟨fun j w1 hC => by exact Chn.upon_pure hC (fun F hF => by (go_simp <;> exact hF)), ?_⟩
      simp only [Act.put, List.setIfInBounds_toArray, List.set_cons_succ, List.set_cons_zero]
    intro y6 hC
    replace H : SW w0 wb g h ob o S X y6 := hC
    clear hC
    obtain ⟨zg, zh, zk, zc, za, zv⟩ := H.cells
    go_wp2
    go_ret
    exact ⟨rfl, S, X, H.ps, K, by omega⟩
end Go.Proofs.Ytjkjbcnafpljoaa
/- A step of the play: what is held. -/
namespace Go.Proofs.Ytjkjbcnafpljoaa
open Go.RowKit
set_option linter.unusedVariables false
set_option linter.unusedSimpArgs false

def HC8 (w0 : World) (wb g h ob : Nat) (o : St4) (S : Sta) (X : Doc) (l : List Lt) (ts : List Int) (L : Lay) (lv : Value) : Nat → Option Value → World → Prop
  | 0, none, y => FR w0 wb g h ob o S X l L lv y
  | 1, some u, y => ∃ ta tc, u = .slice ta ts.length tc ∧ FR w0 wb g h ob o S X l L lv y ∧ y.ownsRow w0.heap.size 3 1 u ts.length (ts.map vI)
  | 2, some u, y => SW w0 wb g h ob o S X y
  | _, _, _ => False
theorem hc8_sw {w0 y : World} {wb g h ob : Nat} {o : St4} {S : Sta} {X : Doc} {l : List Lt} {ts : List Int} {L : Lay} {lv : Value} {j : Nat} {ou : Option Value} (hC : HC8 w0 wb g h ob o S X l ts L lv j ou y) : SW w0 wb g h ob o S X y := by
  match j, ou, hC with
  | 0, none, hC => exact FR.sw hC
  | 1, some u, hC => obtain ⟨_, _, _, hr, _⟩ := hC; exact hr.sw
  | 2, some u, hC => exact hC
set_option maxRecDepth 8000 in
set_option maxHeartbeats 2000000 in
theorem step_8 (w0 : World) (wb g h : Nat) (o : St4) (S : Sta) (X : Doc) (w : World) (H0 : PS w0 wb g h S X w) (K : Lk S X) (hn : S.stamps.length ≤ 300) (ho : o.Ok) (hk : Hid (o.k = 8)) : Calls Try.prog 20 #[ptr wb 0, .agg #[vI o.k, vI o.c, vU o.a, vU o.v]] w fun e w' => e = .returned (.bool true) ∧ Done w0 wb g h S.stamps.length w' := by
  have hA := ho.a
  have a0 := hA.1
  have a1 := hA.2
  have hU0 : U64 0 := ⟨by decide, by decide⟩
  have hl := K.len
  have hst := K.reached
  have hr1 : S.reached ≤ S.stamps.length := by have := K.ok.cnt; omega
  have hr0 := K.st2.pos
  have hfl : X.first.length < 1000000000 := by rw [K.first]; have := K.ok.w2; omega
  have hb0 := K.bad0 o.c
  have hb1 := K.bad o.c o.a a0
  go_enter Try.func20, Try.ntmps20
  go_upto_region 1 with fail
  have H := H0.box o
  generalize w.heap.size = ob at H ⊢
  generalize hy : World.alloc w _ = y0
  have hy' : w.alloc (.cells #[vI o.k, vI o.c, vU o.a, vU o.v] 43) = y0 := hy
  rw [hy'] at H
  clear hy hy' H0
  obtain ⟨zg, zh, zk, zc, za, zv⟩ := H.cells
  obtain ⟨D, hD, lowD⟩ := H.doc
  go_quiet ((go_at_call 37; exact Calls.quiet_of_same (bad_c h X D o.c 0 _ (hD.keep fun _ _ => rfl) hU0 hfl)))
  replace H := H.drew nq
  replace hD := hD.grow (w' := y0.drewN nq) ⟨rfl, rfl, rfl, Nat.le_refl _, fun _ _ => rfl⟩
  generalize y0.drewN nq = y1 at H hD ⊢
  clear zg zh zk zc za zv
  obtain ⟨zg, zh, zk, zc, za, zv⟩ := H.cells
  go_upto_region 2 with fail
  go_quiet ((go_at_call 37; exact Calls.quiet_of_same (bad_c h X D o.c o.a _ (hD.keep fun _ _ => rfl) hA hfl)))
  replace H := H.drew nq
  generalize y1.drewN nq = y2 at H ⊢
  clear zg zh zk zc za zv hD lowD
  obtain ⟨zg, zh, zk, zc, za, zv⟩ := H.cells
  rw [hk.out] at zk
  cases hc : hasCoreB S o.c
  · rw [hc] at hb0
    replace hb0 : badB X o.c 0 = true := hb0
    rw [hb0]
    have hL : heldL S o.c = [] := by rw [heldL, hc]; rfl
    go_upto_region 56 with fail
    refine RelJ.wp_region_call 6 (fun y => SW w0 wb g h ob o S X y) (fun u y => ∃ L, FR w0 wb g h ob o S X [] L u y) (fun u => [ptr wb 0, ptr wb 0, ptr wb 0, ptr g 0, ptr ob 1, vI o.c, u, u]) (by kernel_rfl) (by kernel_rfl) (by kernel_rfl) (by decide) (fun v q hq => by match q, hq with | 0, _ => rfl | 1, _ => rfl | 2, _ => rfl | 3, _ => rfl | 4, _ => rfl | 5, _ => rfl | n + 6, hq => exact absurd hq (by omega)) (fun v => rfl) (fun v => rfl) H.drew1 ?_
    intro u
    clear zg zh zk zc za zv
    iterate 6
      refine ⟨by
        rw [if_pos (by decide)]
        intro w1 hC
        obtain ⟨S9, X9, hz⟩ : ∃ S9 X9, SW w0 wb g h ob o S9 X9 w1 := hC.elim (fun hC => ⟨_, _, hC⟩) (fun ⟨u, L, hr⟩ => ⟨_, _, hr.sw⟩)
        obtain ⟨zg, zh, zk, zc, za, zv⟩ := hz.cells
        exact Chn.upon_pure (C := fun y => y = w1) rfl (fun F hF => by (go_simp <;> exact hF)), ?_⟩
      simp only [Act.put, List.setIfInBounds_toArray, List.set_cons_succ, List.set_cons_zero]
    refine ⟨by
      rw [if_neg (by decide), if_pos rfl]
      intro w1 hC
      obtain ⟨L, M, low⟩ := SW.mem hC
      refine upon_of_call (held_c g S L o.c w1 M K.ok) ?_ (fun F2 hF2 => by (go_simp <;> exact hF2))
      rintro e w2 ⟨v, rfl, R, hB⟩
      rw [hL] at R
      exact ⟨_, rfl, L, FR.held hC M low hB R⟩, ?_⟩
    simp only [Act.put, List.setIfInBounds_toArray, List.set_cons_succ, List.set_cons_zero]
    iterate 1
      refine ⟨by
        rw [if_neg (by decide), if_neg (by decide)]
        intro w1 hF
        skip
        exact Chn.upon_pure (C := fun y => y = w1) rfl (fun F hF => by (go_simp <;> exact hF)), ?_⟩
      simp only [Act.put, List.setIfInBounds_toArray, List.set_cons_succ, List.set_cons_zero]
    intro y3 hF
    obtain ⟨L, R⟩ := hF
    obtain ⟨la, lc, rfl⟩ := R.slice
    replace H := R.sw
    go_wp2
    go_ret
    exact ⟨rfl, S, X, H.ps, K, by omega⟩
  · rw [hc] at hb0
    replace hb0 : badB X o.c 0 = false := hb0
    rw [hb0]
    have hL : heldL S o.c = bufOf S o.c := by rw [heldL, hc]; rfl
    have hlat := K.lates hc
    have hbl := (K.held hc).2
    have hb8 : (bufOf S o.c).length < 1000000 := by have := heldF_len o.c X.all 0; have e : (heldF o.c X.all 0).length = (bufOf S o.c).length := hbl; omega
    go_upto_region 56 with fail
    refine RelJ.wp_region_call 6 (fun y => SW w0 wb g h ob o S X y) (fun u y => ∃ L, FR w0 wb g h ob o S X (bufOf S o.c) L u y) (fun u => [ptr wb 0, ptr wb 0, ptr wb 0, ptr g 0, ptr ob 1, vI o.c, u, u]) (by kernel_rfl) (by kernel_rfl) (by kernel_rfl) (by decide) (fun v q hq => by match q, hq with | 0, _ => rfl | 1, _ => rfl | 2, _ => rfl | 3, _ => rfl | 4, _ => rfl | 5, _ => rfl | n + 6, hq => exact absurd hq (by omega)) (fun v => rfl) (fun v => rfl) H.drew1 ?_
    intro u
    clear zg zh zk zc za zv
    iterate 6
      refine ⟨by
        rw [if_pos (by decide)]
        intro w1 hC
        obtain ⟨S9, X9, hz⟩ : ∃ S9 X9, SW w0 wb g h ob o S9 X9 w1 := hC.elim (fun hC => ⟨_, _, hC⟩) (fun ⟨u, L, hr⟩ => ⟨_, _, hr.sw⟩)
        obtain ⟨zg, zh, zk, zc, za, zv⟩ := hz.cells
        exact Chn.upon_pure (C := fun y => y = w1) rfl (fun F hF => by (go_simp <;> exact hF)), ?_⟩
      simp only [Act.put, List.setIfInBounds_toArray, List.set_cons_succ, List.set_cons_zero]
    refine ⟨by
      rw [if_neg (by decide), if_pos rfl]
      intro w1 hC
      obtain ⟨L, M, low⟩ := SW.mem hC
      refine upon_of_call (held_c g S L o.c w1 M K.ok) ?_ (fun F2 hF2 => by (go_simp <;> exact hF2))
      rintro e w2 ⟨v, rfl, R, hB⟩
      rw [hL] at R
      exact ⟨_, rfl, L, FR.held hC M low hB R⟩, ?_⟩
    simp only [Act.put, List.setIfInBounds_toArray, List.set_cons_succ, List.set_cons_zero]
    iterate 1
      refine ⟨by
        rw [if_neg (by decide), if_neg (by decide)]
        intro w1 hF
        skip
        exact Chn.upon_pure (C := fun y => y = w1) rfl (fun F hF => by (go_simp <;> exact hF)), ?_⟩
      simp only [Act.put, List.setIfInBounds_toArray, List.set_cons_succ, List.set_cons_zero]
    intro y3 hF
    obtain ⟨L, R⟩ := hF
    obtain ⟨la, lc, rfl⟩ := R.slice
    clear H
    go_upto_region 59 with fail
    refine Chn.wp_region_chainX (HC8 w0 wb g h ob o S X (bufOf S o.c) (heldD X o.c) L (.slice la (bufOf S o.c).length lc)) [8, 9] [2, 2, 2, 2, 2, 2, 2, 2, 2, 2, 2] 8 (fun u => [ptr wb 0, .slice la (bufOf S o.c).length lc, ptr wb 0, ptr wb 0, ptr wb 1, ptr h 0, ptr ob 1, vI o.c, u, .bool true, .bool true]) (by kernel_rfl) (by kernel_rfl) (by kernel_rfl) (by kernel_rfl) (by kernel_rfl) (by kernel_rfl) (fun v q hq => by match q, hq with | 0, _ => rfl | 1, _ => rfl | 2, _ => rfl | 3, _ => rfl | 4, _ => rfl | 5, _ => rfl | 6, _ => rfl | 7, _ => rfl | 9, _ => rfl | 10, _ => rfl | n + 11, _ => rfl) (fun v => rfl) (by decide) R.drew1 ?_
    intro u
    iterate 8
      refine ⟨fun j ou w1 hj hn hC => by obtain ⟨zg, zh, zk, zc, za, zv⟩ := (hc8_sw hC).cells; exact Chn.upon_pure hC (fun F hF => by (go_simp <;> exact hF)), ?_⟩
      simp only [Act.put, List.setIfInBounds_toArray, List.set_cons_succ, List.set_cons_zero]
    refine ⟨fun w1 hC => by
      have hC2 : FR w0 wb g h ob o S X (bufOf S o.c) L (.slice la (bufOf S o.c).length lc) w1 := hC
      obtain ⟨D, hD, lowD⟩ := hC2.sw.doc
      refine upon_of_call (heldD_c h X D o.c w1 hD (by omega)) ?_ (fun F2 hF2 => by (go_simp <;> exact hF2))
      rintro e w2 ⟨ta, tc, rfl, T⟩
      rw [hbl] at T ⊢
      have hr := own_mono T.row hC2.sw.below.size
      rw [hbl] at hr
      exact ⟨_, rfl, ta, tc, by rw [hbl], hC2.grow T.below, by rw [hbl]; exact hr⟩, ?_⟩
    simp only [Act.put, List.setIfInBounds_toArray, List.set_cons_succ, List.set_cons_zero]
    refine ⟨fun ou w1 hn hC => by
      obtain rfl := hn (by kernel_rfl)
      obtain ⟨ta, tc, rfl, R3, R4⟩ := hC
      rw [hbl] at R4
      obtain ⟨D, hD, lowD⟩ := R3.sw.doc
      rw [hbl]
      refine upon_of_call (lates_c wb g h X D (bufOf S o.c) (heldD X o.c) la ta lc tc w0.heap.size w0.heap.size (bufOf S o.c).length w1 hD R3.sw.wb (by omega) rfl hbl hb8 R3.row R4 hlat) ?_ (fun F2 hF2 => by (go_simp <;> exact hF2))
      rintro e w2 ⟨rfl, G⟩
      exact ⟨_, rfl, rfl, R3.lated G⟩, ?_⟩
    simp only [Act.put, List.setIfInBounds_toArray, List.set_cons_succ, List.set_cons_zero]
    refine ⟨fun j ou w1 hj hn hC => by exact Chn.upon_pure hC (fun F hF => by (go_simp <;> exact hF)), ?_⟩
    simp only [Act.put, List.setIfInBounds_toArray, List.set_cons_succ, List.set_cons_zero]
    intro y5 hC
    replace H : SW w0 wb g h ob o S X y5 := hC
    go_wp2
    go_ret
    exact ⟨rfl, S, X, H.ps, K, by omega⟩
end Go.Proofs.Ytjkjbcnafpljoaa
/- A step of the play: a word set. -/
namespace Go.Proofs.Ytjkjbcnafpljoaa
open Go.RowKit
set_option linter.unusedVariables false
set_option linter.unusedSimpArgs false

set_option maxRecDepth 8000 in
set_option maxHeartbeats 2000000 in
theorem step_9 (w0 : World) (wb g h : Nat) (o : St4) (S : Sta) (X : Doc) (w : World) (H0 : PS w0 wb g h S X w) (K : Lk S X) (hn : S.stamps.length ≤ 300) (ho : o.Ok) (hk : Hid (o.k = 9)) : Calls Try.prog 20 #[ptr wb 0, .agg #[vI o.k, vI o.c, vU o.a, vU o.v]] w fun e w' => e = .returned (.bool true) ∧ Done w0 wb g h S.stamps.length w' := by
  have hA := ho.a
  have a0 := hA.1
  have a1 := hA.2
  have hU0 : U64 0 := ⟨by decide, by decide⟩
  have hl := K.len
  have hst := K.reached
  have hr1 : S.reached ≤ S.stamps.length := by have := K.ok.cnt; omega
  have hr0 := K.st2.pos
  have hfl : X.first.length < 1000000000 := by rw [K.first]; have := K.ok.w2; omega
  have hb0 := K.bad0 o.c
  have hb1 := K.bad o.c o.a a0
  go_enter Try.func20, Try.ntmps20
  go_upto_region 1 with fail
  have H := H0.box o
  generalize w.heap.size = ob at H ⊢
  generalize hy : World.alloc w _ = y0
  have hy' : w.alloc (.cells #[vI o.k, vI o.c, vU o.a, vU o.v] 43) = y0 := hy
  rw [hy'] at H
  clear hy hy' H0
  obtain ⟨zg, zh, zk, zc, za, zv⟩ := H.cells
  obtain ⟨D, hD, lowD⟩ := H.doc
  go_quiet ((go_at_call 37; exact Calls.quiet_of_same (bad_c h X D o.c 0 _ (hD.keep fun _ _ => rfl) hU0 hfl)))
  replace H := H.drew nq
  replace hD := hD.grow (w' := y0.drewN nq) ⟨rfl, rfl, rfl, Nat.le_refl _, fun _ _ => rfl⟩
  generalize y0.drewN nq = y1 at H hD ⊢
  clear zg zh zk zc za zv
  obtain ⟨zg, zh, zk, zc, za, zv⟩ := H.cells
  go_upto_region 2 with fail
  go_quiet ((go_at_call 37; exact Calls.quiet_of_same (bad_c h X D o.c o.a _ (hD.keep fun _ _ => rfl) hA hfl)))
  replace H := H.drew nq
  generalize y1.drewN nq = y2 at H ⊢
  clear zg zh zk zc za zv hD lowD
  obtain ⟨zg, zh, zk, zc, za, zv⟩ := H.cells
  rw [hk.out] at zk
  obtain ⟨K2, hE⟩ := lk_set K o.a o.v a0
  obtain ⟨e, he⟩ : ∃ e, e = setE S o.a := ⟨_, rfl⟩
  have he1 : setE S o.a = e := he.symm
  have he2 : dsetE X o.a = e := by rw [← hE, he]
  replace he := show Hid _ from he
  have hw8 := K.ok.w2
  go_upto_region 61 with fail
  refine Chn.wp_region_chain (fun n y => SW w0 wb g h ob o S (if n = 0 then X else (setD X o.a o.v)) y) [8] [ptr wb 0, ptr wb 0, ptr wb 1, ptr h 0, ptr ob 2, vU o.a, ptr ob 3, vU o.v, vI e, vI e] (by kernel_rfl) (by kernel_rfl) (by kernel_rfl) (by kernel_rfl) H.drew1 ?_
  clear zg zh zk zc za zv
  iterate 8
    refine ⟨fun j w1 hC => by obtain ⟨zg, zh, zk, zc, za, zv⟩ := SW.cells hC; exact Chn.upon_pure hC (fun F hF => by (go_simp <;> exact hF)), ?_⟩
    simp only [Act.put, List.setIfInBounds_toArray, List.set_cons_succ, List.set_cons_zero]
  refine ⟨fun w1 hC => by
    have hC2 : SW w0 wb g h ob o S X w1 := hC
    obtain ⟨L, M, low⟩ := hC2.mem
    obtain ⟨D, hD, lowD⟩ := hC2.doc
    refine upon_of_call (setD_c h X D o.a o.v w1 hD hA hfl) ?_ (fun F2 hF2 => by (go_simp <;> exact hF2))
    rintro e w2 ⟨rfl, T⟩
    exact ⟨_, rfl, by simp only [he2], hC2.docTurn hD lowD T⟩, ?_⟩
  simp only [Act.put, List.setIfInBounds_toArray, List.set_cons_succ, List.set_cons_zero]
  iterate 1
    refine ⟨fun j w1 hC => by exact Chn.upon_pure hC (fun F hF => by (go_simp <;> exact hF)), ?_⟩
    simp only [Act.put, List.setIfInBounds_toArray, List.set_cons_succ, List.set_cons_zero]
  intro y3 hC
  replace H : SW w0 wb g h ob o S (setD X o.a o.v) y3 := hC
  clear hC
  obtain ⟨zg, zh, zk, zc, za, zv⟩ := H.cells
  go_upto_region 62 with fail
  refine Chn.wp_region_chain (fun n y => SW w0 wb g h ob o (if n = 0 then S else (setS S o.a o.v)) (setD X o.a o.v) y) [8] [ptr wb 0, ptr wb 0, ptr wb 0, ptr g 0, ptr ob 2, vU o.a, ptr ob 3, vU o.v, vI e, vI e, .bool true, .bool true] (by kernel_rfl) (by kernel_rfl) (by kernel_rfl) (by kernel_rfl) H.drew1 ?_
  clear zg zh zk zc za zv
  iterate 8
    refine ⟨fun j w1 hC => by obtain ⟨zg, zh, zk, zc, za, zv⟩ := SW.cells hC; exact Chn.upon_pure hC (fun F hF => by (go_simp <;> exact hF)), ?_⟩
    simp only [Act.put, List.setIfInBounds_toArray, List.set_cons_succ, List.set_cons_zero]
  refine ⟨fun w1 hC => by
    have hC2 : SW w0 wb g h ob o S (setD X o.a o.v) w1 := hC
    obtain ⟨L, M, low⟩ := hC2.mem
    obtain ⟨D, hD, lowD⟩ := hC2.doc
    refine upon_of_call (set_c g S L o.a o.v w1 M hw8 hA) ?_ (fun F2 hF2 => by (go_simp <;> exact hF2))
    rintro e w2 ⟨rfl, T⟩
    exact ⟨_, rfl, by simp only [he1], hC2.memTurn M low T⟩, ?_⟩
  simp only [Act.put, List.setIfInBounds_toArray, List.set_cons_succ, List.set_cons_zero]
  iterate 3
    refine ⟨fun j w1 hC => by exact Chn.upon_pure hC (fun F hF => by (go_simp <;> exact hF)), ?_⟩
    simp only [Act.put, List.setIfInBounds_toArray, List.set_cons_succ, List.set_cons_zero]
  intro y4 hC
  replace H : SW w0 wb g h ob o (setS S o.a o.v) (setD X o.a o.v) y4 := hC
  clear hC
  obtain ⟨zg, zh, zk, zc, za, zv⟩ := H.cells
  have hz : (setS S o.a o.v).stamps.length ≤ S.stamps.length + 1 := by
    unfold setS
    split
    · exact Nat.le_succ _
    · exact Nat.le_succ _
  go_wp2
  go_ret
  exact ⟨rfl, _, _, H.ps, K2, hz⟩
end Go.Proofs.Ytjkjbcnafpljoaa
