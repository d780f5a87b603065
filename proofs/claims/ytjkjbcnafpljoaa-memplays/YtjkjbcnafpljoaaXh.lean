/- W1, W2, W3, W4 of the seat, joined. -/
import Derived.Test.YtjkjbcnafpljoaaXg
/- A step of the play: a load. -/
namespace Go.Proofs.Ytjkjbcnafpljoaa
open Go.RowKit
set_option linter.unusedVariables false
set_option linter.unusedSimpArgs false

set_option maxRecDepth 8000 in
set_option maxHeartbeats 2000000 in
theorem step_1 (w0 : World) (wb g h : Nat) (o : St4) (S : Sta) (X : Doc) (w : World) (H0 : PS w0 wb g h S X w) (K : Lk S X) (hn : S.stamps.length ≤ 300) (ho : o.Ok) (hk : Hid (o.k = 1)) : Calls Try.prog 20 #[ptr wb 0, .agg #[vI o.k, vI o.c, vU o.a, vU o.v]] w fun e w' => e = .returned (.bool true) ∧ Done w0 wb g h S.stamps.length w' := by
  have hA := ho.a
  have a0 := hA.1
  have a1 := hA.2
  have hU0 : U64 0 := ⟨by decide, by decide⟩
  have hl := K.len
  have hst := K.reached
  have hr1 : S.reached ≤ S.stamps.length := by have := K.ok.cnt; omega
  have hr0 := K.st2.pos
  have hfl : X.first.length < 1000000000 := by rw [K.first]; have := K.ok.w2; omega
  have hb0 := K.bad0 o.c
  have hb1 := K.bad o.c o.a a0
  go_enter Try.func20, Try.ntmps20
  go_upto_region 1 with fail
  have H := H0.box o
  generalize w.heap.size = ob at H ⊢
  generalize hy : World.alloc w _ = y0
  have hy' : w.alloc (.cells #[vI o.k, vI o.c, vU o.a, vU o.v] 43) = y0 := hy
  rw [hy'] at H
  clear hy hy' H0
  obtain ⟨zg, zh, zk, zc, za, zv⟩ := H.cells
  obtain ⟨D, hD, lowD⟩ := H.doc
  go_quiet ((go_at_call 37; exact Calls.quiet_of_same (bad_c h X D o.c 0 _ (hD.keep fun _ _ => rfl) hU0 hfl)))
  replace H := H.drew nq
  replace hD := hD.grow (w' := y0.drewN nq) ⟨rfl, rfl, rfl, Nat.le_refl _, fun _ _ => rfl⟩
  generalize y0.drewN nq = y1 at H hD ⊢
  clear zg zh zk zc za zv
  obtain ⟨zg, zh, zk, zc, za, zv⟩ := H.cells
  go_upto_region 2 with fail
  go_quiet ((go_at_call 37; exact Calls.quiet_of_same (bad_c h X D o.c o.a _ (hD.keep fun _ _ => rfl) hA hfl)))
  replace H := H.drew nq
  generalize y1.drewN nq = y2 at H ⊢
  clear zg zh zk zc za zv hD lowD
  obtain ⟨zg, zh, zk, zc, za, zv⟩ := H.cells
  rw [hk.out] at zk
  cases hok : okB S o.c o.a
  · rw [hok] at hb1
    replace hb1 : badB X o.c o.a = true := hb1
    rw [hb1]
    have hp : loadP S o.c o.a = (0, 0) := by rw [loadP, hok]; rfl
    go_upto_region 5 with fail
    refine Chn.wp_region_chain (fun n y => SW w0 wb g h ob o S X y) [8] [ptr wb 0, ptr wb 0, ptr wb 0, ptr g 0, ptr ob 1, vI o.c, ptr ob 2, vU o.a, .tuple #[vU ((0, 0) : Int × Int).1, vI ((0, 0) : Int × Int).2, vI 1], .tuple #[vU ((0, 0) : Int × Int).1, vI ((0, 0) : Int × Int).2, vI 1], vU ((0, 0) : Int × Int).1, vI ((0, 0) : Int × Int).2, vI 1, vU ((0, 0) : Int × Int).1, vI ((0, 0) : Int × Int).2, vI 1] (by kernel_rfl) (by kernel_rfl) (by kernel_rfl) (by kernel_rfl) H.drew1 ?_
    clear zg zh zk zc za zv
    iterate 8
      refine ⟨fun j w1 hC => by obtain ⟨zg, zh, zk, zc, za, zv⟩ := SW.cells hC; exact Chn.upon_pure hC (fun F hF => by (go_simp <;> exact hF)), ?_⟩
      simp only [Act.put, List.setIfInBounds_toArray, List.set_cons_succ, List.set_cons_zero]
    refine ⟨fun w1 hC => by
      have hC2 : SW w0 wb g h ob o S X w1 := hC
      obtain ⟨L, M, low⟩ := hC2.mem
      obtain ⟨D, hD, lowD⟩ := hC2.doc
      refine upon_of_call (load_c g S L o.c o.a w1 M K.ok hA) ?_ (fun F2 hF2 => by (go_simp <;> exact hF2))
      rintro e w2 ⟨rfl, T⟩
      exact ⟨_, rfl, by simp only [hp, hok, argE, if_true, Bool.false_eq_true, if_false], hC2.memTurn M low T⟩, ?_⟩
    simp only [Act.put, List.setIfInBounds_toArray, List.set_cons_succ, List.set_cons_zero]
    iterate 7
      refine ⟨fun j w1 hC => by exact Chn.upon_pure hC (fun F hF => by (go_simp <;> exact hF)), ?_⟩
      simp only [Act.put, List.setIfInBounds_toArray, List.set_cons_succ, List.set_cons_zero]
    intro y3 hC
    replace H : SW w0 wb g h ob o S X y3 := hC
    clear hC
    obtain ⟨zg, zh, zk, zc, za, zv⟩ := H.cells
    go_wp2
    go_ret
    exact ⟨rfl, S, X, H.ps, K, by omega⟩
  · rw [hok] at hb1
    replace hb1 : badB X o.c o.a = false := hb1
    rw [hb1]
    have hp := K.load a0 hok
    have hwd := (bad_word hb1).2.2.2
    generalize hq : ldD X o.c o.a = q at hp
    go_upto_region 5 with fail
    refine Chn.wp_region_chain (fun n y => SW w0 wb g h ob o S X y) [8] [ptr wb 0, ptr wb 0, ptr wb 0, ptr g 0, ptr ob 1, vI o.c, ptr ob 2, vU o.a, .tuple #[vU q.1, vI q.2, vI 0], .tuple #[vU q.1, vI q.2, vI 0], vU q.1, vI q.2, vI 0, vU q.1, vI q.2, vI 0] (by kernel_rfl) (by kernel_rfl) (by kernel_rfl) (by kernel_rfl) H.drew1 ?_
    clear zg zh zk zc za zv
    iterate 8
      refine ⟨fun j w1 hC => by obtain ⟨zg, zh, zk, zc, za, zv⟩ := SW.cells hC; exact Chn.upon_pure hC (fun F hF => by (go_simp <;> exact hF)), ?_⟩
      simp only [Act.put, List.setIfInBounds_toArray, List.set_cons_succ, List.set_cons_zero]
    refine ⟨fun w1 hC => by
      have hC2 : SW w0 wb g h ob o S X w1 := hC
      obtain ⟨L, M, low⟩ := hC2.mem
      obtain ⟨D, hD, lowD⟩ := hC2.doc
      refine upon_of_call (load_c g S L o.c o.a w1 M K.ok hA) ?_ (fun F2 hF2 => by (go_simp <;> exact hF2))
      rintro e w2 ⟨rfl, T⟩
      exact ⟨_, rfl, by simp only [hp, hok, argE, if_true, Bool.false_eq_true, if_false], hC2.memTurn M low T⟩, ?_⟩
    simp only [Act.put, List.setIfInBounds_toArray, List.set_cons_succ, List.set_cons_zero]
    iterate 7
      refine ⟨fun j w1 hC => by exact Chn.upon_pure hC (fun F hF => by (go_simp <;> exact hF)), ?_⟩
      simp only [Act.put, List.setIfInBounds_toArray, List.set_cons_succ, List.set_cons_zero]
    intro y3 hC
    replace H : SW w0 wb g h ob o S X y3 := hC
    clear hC
    obtain ⟨zg, zh, zk, zc, za, zv⟩ := H.cells
    go_upto_region 8 with fail
    refine Chn.wp_region_chain (fun n y => SW w0 wb g h ob o S X y) [8] [ptr wb 0, ptr wb 0, ptr wb 1, ptr h 0, ptr ob 1, vI o.c, ptr ob 2, vU o.a, .tuple #[vU q.1, vI q.2], .tuple #[vU q.1, vI q.2], vU q.1, vI q.2, vU q.1, vI q.2] (by kernel_rfl) (by kernel_rfl) (by kernel_rfl) (by kernel_rfl) H.drew1 ?_
    clear zg zh zk zc za zv
    iterate 8
      refine ⟨fun j w1 hC => by obtain ⟨zg, zh, zk, zc, za, zv⟩ := SW.cells hC; exact Chn.upon_pure hC (fun F hF => by (go_simp <;> exact hF)), ?_⟩
      simp only [Act.put, List.setIfInBounds_toArray, List.set_cons_succ, List.set_cons_zero]
    refine ⟨fun w1 hC => by
      have hC2 : SW w0 wb g h ob o S X w1 := hC
      obtain ⟨L, M, low⟩ := hC2.mem
      obtain ⟨D, hD, lowD⟩ := hC2.doc
      refine upon_of_call (loadD_c h X D o.c o.a w1 hD hA hwd (by omega)) ?_ (fun F2 hF2 => by (go_simp <;> exact hF2))
      rintro e w2 ⟨rfl, hB⟩
      exact ⟨_, rfl, by simp only [hq], hC2.grow hB⟩, ?_⟩
    simp only [Act.put, List.setIfInBounds_toArray, List.set_cons_succ, List.set_cons_zero]
    iterate 5
      refine ⟨fun j w1 hC => by exact Chn.upon_pure hC (fun F hF => by (go_simp <;> exact hF)), ?_⟩
      simp only [Act.put, List.setIfInBounds_toArray, List.set_cons_succ, List.set_cons_zero]
    intro y4 hC
    replace H : SW w0 wb g h ob o S X y4 := hC
    clear hC
    obtain ⟨zg, zh, zk, zc, za, zv⟩ := H.cells
    go_wp2
    go_ret
    exact ⟨rfl, S, X, H.ps, K, by omega⟩
end Go.Proofs.Ytjkjbcnafpljoaa
/- A step of the play: a store. -/
namespace Go.Proofs.Ytjkjbcnafpljoaa
open Go.RowKit
set_option linter.unusedVariables false
set_option linter.unusedSimpArgs false

set_option maxRecDepth 8000 in
set_option maxHeartbeats 2000000 in
theorem step_2 (w0 : World) (wb g h : Nat) (o : St4) (S : Sta) (X : Doc) (w : World) (H0 : PS w0 wb g h S X w) (K : Lk S X) (hn : S.stamps.length ≤ 300) (ho : o.Ok) (hk : Hid (o.k = 2)) : Calls Try.prog 20 #[ptr wb 0, .agg #[vI o.k, vI o.c, vU o.a, vU o.v]] w fun e w' => e = .returned (.bool true) ∧ Done w0 wb g h S.stamps.length w' := by
  have hA := ho.a
  have a0 := hA.1
  have a1 := hA.2
  have hU0 : U64 0 := ⟨by decide, by decide⟩
  have hl := K.len
  have hst := K.reached
  have hr1 : S.reached ≤ S.stamps.length := by have := K.ok.cnt; omega
  have hr0 := K.st2.pos
  have hfl : X.first.length < 1000000000 := by rw [K.first]; have := K.ok.w2; omega
  have hb0 := K.bad0 o.c
  have hb1 := K.bad o.c o.a a0
  go_enter Try.func20, Try.ntmps20
  go_upto_region 1 with fail
  have H := H0.box o
  generalize w.heap.size = ob at H ⊢
  generalize hy : World.alloc w _ = y0
  have hy' : w.alloc (.cells #[vI o.k, vI o.c, vU o.a, vU o.v] 43) = y0 := hy
  rw [hy'] at H
  clear hy hy' H0
  obtain ⟨zg, zh, zk, zc, za, zv⟩ := H.cells
  obtain ⟨D, hD, lowD⟩ := H.doc
  go_quiet ((go_at_call 37; exact Calls.quiet_of_same (bad_c h X D o.c 0 _ (hD.keep fun _ _ => rfl) hU0 hfl)))
  replace H := H.drew nq
  replace hD := hD.grow (w' := y0.drewN nq) ⟨rfl, rfl, rfl, Nat.le_refl _, fun _ _ => rfl⟩
  generalize y0.drewN nq = y1 at H hD ⊢
  clear zg zh zk zc za zv
  obtain ⟨zg, zh, zk, zc, za, zv⟩ := H.cells
  go_upto_region 2 with fail
  go_quiet ((go_at_call 37; exact Calls.quiet_of_same (bad_c h X D o.c o.a _ (hD.keep fun _ _ => rfl) hA hfl)))
  replace H := H.drew nq
  generalize y1.drewN nq = y2 at H ⊢
  clear zg zh zk zc za zv hD lowD
  obtain ⟨zg, zh, zk, zc, za, zv⟩ := H.cells
  rw [hk.out] at zk
  cases hok : okB S o.c o.a
  · rw [hok] at hb1
    replace hb1 : badB X o.c o.a = true := hb1
    rw [hb1]
    have hE : storeE S o.c o.a = 1 := by
      rw [storeE]
      rw [okB] at hok
      cases hw : hasWordB S o.a
      · rfl
      · rw [hw, Bool.and_true] at hok
        rw [hok]; rfl
    have hT : storeT S o.c o.a = 0 := by rw [storeT, hE]; rfl
    have hS : storeS S o.c o.a o.v = S := by rw [storeS, hE]; rfl
    go_upto_region 11 with fail
    refine Chn.wp_region_chain (fun n y => SW w0 wb g h ob o S X y) [10] [ptr wb 0, ptr wb 0, ptr wb 0, ptr g 0, ptr ob 1, vI o.c, ptr ob 2, vU o.a, ptr ob 3, vU o.v, .tuple #[vI 0, vI 1], .tuple #[vI 0, vI 1], vI 0, vI 1, vI 0, vI 1] (by kernel_rfl) (by kernel_rfl) (by kernel_rfl) (by kernel_rfl) H.drew1 ?_
    clear zg zh zk zc za zv
    iterate 10
      refine ⟨fun j w1 hC => by obtain ⟨zg, zh, zk, zc, za, zv⟩ := SW.cells hC; exact Chn.upon_pure hC (fun F hF => by (go_simp <;> exact hF)), ?_⟩
      simp only [Act.put, List.setIfInBounds_toArray, List.set_cons_succ, List.set_cons_zero]
    refine ⟨fun w1 hC => by
      have hC2 : SW w0 wb g h ob o S X w1 := hC
      obtain ⟨L, M, low⟩ := hC2.mem
      obtain ⟨D, hD, lowD⟩ := hC2.doc
      refine upon_of_call (store_c g S L o.c o.a o.v w1 M K.ok hA (by omega)) ?_ (fun F2 hF2 => by (go_simp <;> exact hF2))
      rintro e w2 ⟨rfl, T⟩
      exact ⟨_, rfl, by simp only [hE, hT], (by have T2 := hC2.memTurn M low T; rw [hS] at T2; exact T2)⟩, ?_⟩
    simp only [Act.put, List.setIfInBounds_toArray, List.set_cons_succ, List.set_cons_zero]
    iterate 5
      refine ⟨fun j w1 hC => by exact Chn.upon_pure hC (fun F hF => by (go_simp <;> exact hF)), ?_⟩
      simp only [Act.put, List.setIfInBounds_toArray, List.set_cons_succ, List.set_cons_zero]
    intro y3 hC
    replace H : SW w0 wb g h ob o S X y3 := hC
    clear hC
    obtain ⟨zg, zh, zk, zc, za, zv⟩ := H.cells
    go_wp2
    go_ret
    exact ⟨rfl, S, X, H.ps, K, by omega⟩
  · rw [hok] at hb1
    replace hb1 : badB X o.c o.a = false := hb1
    rw [hb1]
    have hc : hasCoreB S o.c = true := by simp only [okB, Bool.and_eq_true] at hok; exact hok.1
    have hw : hasWordB S o.a = true := by simp only [okB, Bool.and_eq_true] at hok; exact hok.2
    have hfu := K.full hc
    by_cases hd : S.depth ≤ ((bufOf S o.c).length : Int)
    · have hE : storeE S o.c o.a = 30 := by rw [storeE, hw, hc, if_pos rfl, if_pos rfl, if_pos hd]
      have hT : storeT S o.c o.a = 0 := by rw [storeT, hE]; rfl
      have hS : storeS S o.c o.a o.v = S := by rw [storeS, hE]; rfl
      have hF : fullD X o.c = true := by rw [hfu]; exact decide_eq_true hd
      have hX : storeDS X o.c o.a o.v = X := by rw [storeDS, hF]; rfl
      go_upto_region 11 with fail
      refine Chn.wp_region_chain (fun n y => SW w0 wb g h ob o S X y) [10] [ptr wb 0, ptr wb 0, ptr wb 0, ptr g 0, ptr ob 1, vI o.c, ptr ob 2, vU o.a, ptr ob 3, vU o.v, .tuple #[vI 0, vI 30], .tuple #[vI 0, vI 30], vI 0, vI 30, vI 0, vI 30] (by kernel_rfl) (by kernel_rfl) (by kernel_rfl) (by kernel_rfl) H.drew1 ?_
      clear zg zh zk zc za zv
      iterate 10
        refine ⟨fun j w1 hC => by obtain ⟨zg, zh, zk, zc, za, zv⟩ := SW.cells hC; exact Chn.upon_pure hC (fun F hF => by (go_simp <;> exact hF)), ?_⟩
        simp only [Act.put, List.setIfInBounds_toArray, List.set_cons_succ, List.set_cons_zero]
      refine ⟨fun w1 hC => by
        have hC2 : SW w0 wb g h ob o S X w1 := hC
        obtain ⟨L, M, low⟩ := hC2.mem
        obtain ⟨D, hD, lowD⟩ := hC2.doc
        refine upon_of_call (store_c g S L o.c o.a o.v w1 M K.ok hA (by omega)) ?_ (fun F2 hF2 => by (go_simp <;> exact hF2))
        rintro e w2 ⟨rfl, T⟩
        exact ⟨_, rfl, by simp only [hE, hT], (by have T2 := hC2.memTurn M low T; rw [hS] at T2; exact T2)⟩, ?_⟩
      simp only [Act.put, List.setIfInBounds_toArray, List.set_cons_succ, List.set_cons_zero]
      iterate 5
        refine ⟨fun j w1 hC => by exact Chn.upon_pure hC (fun F hF => by (go_simp <;> exact hF)), ?_⟩
        simp only [Act.put, List.setIfInBounds_toArray, List.set_cons_succ, List.set_cons_zero]
      intro y3 hC
      replace H : SW w0 wb g h ob o S X y3 := hC
      clear hC
      obtain ⟨zg, zh, zk, zc, za, zv⟩ := H.cells
      go_upto_region 14 with fail
      refine Chn.wp_region_chain (fun n y => SW w0 wb g h ob o S X y) [10] [ptr wb 0, ptr wb 0, ptr wb 1, ptr h 0, ptr ob 1, vI o.c, ptr ob 2, vU o.a, ptr ob 3, vU o.v, .tuple #[vI 0, vI 30], .tuple #[vI 0, vI 30], vI 0, vI 30, vI 0, vI 30] (by kernel_rfl) (by kernel_rfl) (by kernel_rfl) (by kernel_rfl) H.drew1 ?_
      clear zg zh zk zc za zv
      iterate 10
        refine ⟨fun j w1 hC => by obtain ⟨zg, zh, zk, zc, za, zv⟩ := SW.cells hC; exact Chn.upon_pure hC (fun F hF => by (go_simp <;> exact hF)), ?_⟩
        simp only [Act.put, List.setIfInBounds_toArray, List.set_cons_succ, List.set_cons_zero]
      refine ⟨fun w1 hC => by
        have hC2 : SW w0 wb g h ob o S X w1 := hC
        obtain ⟨L, M, low⟩ := hC2.mem
        obtain ⟨D, hD, lowD⟩ := hC2.doc
        refine upon_of_call (storeD_c h X D o.c o.a o.v w1 hD (by omega)) ?_ (fun F2 hF2 => by (go_simp <;> exact hF2))
        rintro e w2 ⟨rfl, T⟩
        exact ⟨_, rfl, by simp only [hF, if_true], (by have T2 := hC2.docTurn hD lowD T; rw [hX] at T2; exact T2)⟩, ?_⟩
      simp only [Act.put, List.setIfInBounds_toArray, List.set_cons_succ, List.set_cons_zero]
      iterate 5
        refine ⟨fun j w1 hC => by exact Chn.upon_pure hC (fun F hF => by (go_simp <;> exact hF)), ?_⟩
        simp only [Act.put, List.setIfInBounds_toArray, List.set_cons_succ, List.set_cons_zero]
      intro y4 hC
      replace H : SW w0 wb g h ob o S X y4 := hC
      clear hC
      obtain ⟨zg, zh, zk, zc, za, zv⟩ := H.cells
      go_wp2
      go_ret
      exact ⟨rfl, S, X, H.ps, K, by omega⟩
    · obtain ⟨K2, hE, hT⟩ := lk_store K o.v a0 hok (by omega)
      have hF : fullD X o.c = false := by rw [hfu]; exact decide_eq_false hd
      have hz := (store_szs S o.c o.a o.v).2
      obtain ⟨t, ht⟩ : ∃ t, t = (S.stamps.length : Int) + 1 := ⟨_, rfl⟩
      rw [← ht] at hT
      have ht2 : (X.all.length : Int) + 1 = t := by rw [hl, ht]
      replace ht := show Hid _ from ht
      go_upto_region 11 with fail
      refine Chn.wp_region_chain (fun n y => SW w0 wb g h ob o (if n = 0 then S else (storeS S o.c o.a o.v)) X y) [10] [ptr wb 0, ptr wb 0, ptr wb 0, ptr g 0, ptr ob 1, vI o.c, ptr ob 2, vU o.a, ptr ob 3, vU o.v, .tuple #[vI t, vI 0], .tuple #[vI t, vI 0], vI t, vI 0, vI t, vI 0] (by kernel_rfl) (by kernel_rfl) (by kernel_rfl) (by kernel_rfl) H.drew1 ?_
      clear zg zh zk zc za zv
      iterate 10
        refine ⟨fun j w1 hC => by obtain ⟨zg, zh, zk, zc, za, zv⟩ := SW.cells hC; exact Chn.upon_pure hC (fun F hF => by (go_simp <;> exact hF)), ?_⟩
        simp only [Act.put, List.setIfInBounds_toArray, List.set_cons_succ, List.set_cons_zero]
      refine ⟨fun w1 hC => by
        have hC2 : SW w0 wb g h ob o S X w1 := hC
        obtain ⟨L, M, low⟩ := hC2.mem
        obtain ⟨D, hD, lowD⟩ := hC2.doc
        refine upon_of_call (store_c g S L o.c o.a o.v w1 M K.ok hA (by omega)) ?_ (fun F2 hF2 => by (go_simp <;> exact hF2))
        rintro e w2 ⟨rfl, T⟩
        exact ⟨_, rfl, by simp only [hE, hT], hC2.memTurn M low T⟩, ?_⟩
      simp only [Act.put, List.setIfInBounds_toArray, List.set_cons_succ, List.set_cons_zero]
      iterate 5
        refine ⟨fun j w1 hC => by exact Chn.upon_pure hC (fun F hF => by (go_simp <;> exact hF)), ?_⟩
        simp only [Act.put, List.setIfInBounds_toArray, List.set_cons_succ, List.set_cons_zero]
      intro y3 hC
      replace H : SW w0 wb g h ob o (storeS S o.c o.a o.v) X y3 := hC
      clear hC
      obtain ⟨zg, zh, zk, zc, za, zv⟩ := H.cells
      go_upto_region 14 with fail
      refine Chn.wp_region_chain (fun n y => SW w0 wb g h ob o (storeS S o.c o.a o.v) (if n = 0 then X else (storeDS X o.c o.a o.v)) y) [10] [ptr wb 0, ptr wb 0, ptr wb 1, ptr h 0, ptr ob 1, vI o.c, ptr ob 2, vU o.a, ptr ob 3, vU o.v, .tuple #[vI t, vI 0], .tuple #[vI t, vI 0], vI t, vI 0, vI t, vI 0] (by kernel_rfl) (by kernel_rfl) (by kernel_rfl) (by kernel_rfl) H.drew1 ?_
      clear zg zh zk zc za zv
      iterate 10
        refine ⟨fun j w1 hC => by obtain ⟨zg, zh, zk, zc, za, zv⟩ := SW.cells hC; exact Chn.upon_pure hC (fun F hF => by (go_simp <;> exact hF)), ?_⟩
        simp only [Act.put, List.setIfInBounds_toArray, List.set_cons_succ, List.set_cons_zero]
      refine ⟨fun w1 hC => by
        have hC2 : SW w0 wb g h ob o (storeS S o.c o.a o.v) X w1 := hC
        obtain ⟨L, M, low⟩ := hC2.mem
        obtain ⟨D, hD, lowD⟩ := hC2.doc
        refine upon_of_call (storeD_c h X D o.c o.a o.v w1 hD (by omega)) ?_ (fun F2 hF2 => by (go_simp <;> exact hF2))
        rintro e w2 ⟨rfl, T⟩
        exact ⟨_, rfl, by simp only [hF, Bool.false_eq_true, if_false, ht2], hC2.docTurn hD lowD T⟩, ?_⟩
      simp only [Act.put, List.setIfInBounds_toArray, List.set_cons_succ, List.set_cons_zero]
      iterate 5
        refine ⟨fun j w1 hC => by exact Chn.upon_pure hC (fun F hF => by (go_simp <;> exact hF)), ?_⟩
        simp only [Act.put, List.setIfInBounds_toArray, List.set_cons_succ, List.set_cons_zero]
      intro y4 hC
      replace H : SW w0 wb g h ob o (storeS S o.c o.a o.v) (storeDS X o.c o.a o.v) y4 := hC
      clear hC
      obtain ⟨zg, zh, zk, zc, za, zv⟩ := H.cells
      go_wp2
      go_ret
      exact ⟨rfl, _, _, H.ps, K2, hz⟩
end Go.Proofs.Ytjkjbcnafpljoaa
/- A step of the play: a drain. -/
namespace Go.Proofs.Ytjkjbcnafpljoaa
open Go.RowKit
set_option linter.unusedVariables false
set_option linter.unusedSimpArgs false

abbrev vsl (b : Nat) : Value := .slice (some ⟨b, 0, none⟩) 1 1
section
variable {w0 w w' : World} {wb g h ob : Nat} {o : St4} {S S' : Sta} {X X' : Doc} {l : List Lt} {L : Lay} {lv : Value}
theorem FR.var (H : SW w0 wb g h ob o S X w) (M : MemAt g S L w) (low : ∀ k, Foot g L k → w0.heap.size ≤ k) : FR w0 wb g h ob o S X [nilL] L (vsl w.heap.size) (w.alloc (.cells nilL.cells 59)) :=
  FR.held H M low (below_alloc _ _) ⟨rfl, .inr ⟨w.heap.size, 1, nilL.cells, rfl, Nat.le_refl _, heap_alloc_new _ _, Nat.le_refl _, by simp only [maxLen]; omega, rfl, rfl⟩⟩
theorem FR.memTurn (H : FR w0 wb g h ob o S X l L lv w) (T : Turn g L S' w w') : ∃ L', FR w0 wb g h ob o S' X l L' lv w' := by
  have h1 := H.sw.memTurn H.mem H.low T
  obtain ⟨L', M', G, F⟩ := T
  refine ⟨L', h1, M', fun k hk => ?_, own_of_block H.row fun k hk => G.block k (H.row.lt k hk).2 (H.nf k hk), fun b hb hf => ?_⟩
  · rcases F k hk with e | e
    · exact H.low k e
    · exact Nat.le_trans H.sw.below.size e
  · rcases F b hf with e | e
    · exact H.nf b hb e
    · have := (H.row.lt b hb).2; omega
theorem FR.cellsAt {b : Nat} {z : Lt} (H : FR w0 wb g h ob o S X [z] L (vsl b) w) : w.cell? ⟨b, 0, none⟩ = some (vU z.a) ∧ w.cell? ⟨b, 1, none⟩ = some (vU z.v) ∧ w.cell? ⟨b, 2, none⟩ = some (vI z.t) := by
  have := H.row.cellAt
  exact ⟨this 0 (by decide), this 1 (by decide), this 2 (by decide)⟩
theorem FR.setVar {b : Nat} {z0 : Lt} (H : FR w0 wb g h ob o S X [z0] L (vsl b) w) (z : Lt) : (storeVar 59 ⟨b, 0, none⟩ z.val).run Try.prog w = .ok () (w.setCells b 0 [vU z.a, vU z.v, vI z.t]) ∧ FR w0 wb g h ob o S X [z] L (vsl b) (w.setCells b 0 [vU z.a, vU z.v, vI z.t]) := by
  obtain ⟨b', cap, e, _, _, _, hc, hf⟩ := own_addr H.row (by show 0 < 1; decide)
  cases e
  have ht : w.there b 0 3 := fun j hj => by
    rw [Nat.zero_add, hc j (by show j < 1 * 3; omega)]
    refine ⟨?_, hf _⟩
    rcases (by omega : j = 0 ∨ j = 1 ∨ j = 2) with rfl | rfl | rfl <;> rfl
  refine ⟨run_storeVar_mid (P := Try.prog) w b 0 59 z.cells ht inf59s (one3 _ _ _), ?_⟩
  have G := goes_setCells (F := fun k => (vsl b).ownBlock = some k) (b := b) rfl [vU z.a, vU z.v, vI z.t] 0 w
  refine ⟨H.lated G, H.mem.keep fun k hk => G.block k (H.mem.lt hk) (fun e => H.nf k e hk), H.low, ?_, H.nf⟩
  exact own_out H.row 0 z
end
def CD3 (w0 : World) (wb g h ob : Nat) (o : St4) (S S' : Sta) (X : Doc) (z : Lt) : Nat → Option Value → World → Prop
  | 0, none, y => SW w0 wb g h ob o S X y
  | 0, some v, y => ∃ b L, v = ptr b 0 ∧ FR w0 wb g h ob o S X [nilL] L (vsl b) y
  | 1, none, y => SW w0 wb g h ob o S' X y
  | 1, some v, y => ∃ b L, v = ptr b 0 ∧ FR w0 wb g h ob o S' X [nilL] L (vsl b) y
  | 2, some v, y => ∃ b L, v = ptr b 0 ∧ FR w0 wb g h ob o S' X [z] L (vsl b) y
  | _, _, _ => False
theorem cd3_sw {w0 y : World} {wb g h ob : Nat} {o : St4} {S S' : Sta} {X : Doc} {z : Lt} {j : Nat} {ou : Option Value} (hC : CD3 w0 wb g h ob o S S' X z j ou y) : ∃ S9 X9, SW w0 wb g h ob o S9 X9 y := by
  match j, ou, hC with
  | 0, none, hC => exact ⟨_, _, hC⟩
  | 0, some v, hC => obtain ⟨_, _, _, hr⟩ := hC; exact ⟨_, _, hr.sw⟩
  | 1, none, hC => exact ⟨_, _, hC⟩
  | 1, some v, hC => obtain ⟨_, _, _, hr⟩ := hC; exact ⟨_, _, hr.sw⟩
  | 2, some v, hC => obtain ⟨_, _, _, hr⟩ := hC; exact ⟨_, _, hr.sw⟩
theorem upon_any {P : Program} {F0 : Value → World → Prop} {w w' : World} {v : Value} {r : Result Next} (h : ∀ F : Value → World → Prop, F v w' → Chn.upon P F w r) (hF : F0 v w') : Chn.upon P F0 w r := h _ hF
set_option maxRecDepth 8000 in
set_option maxHeartbeats 2000000 in
theorem step_3 (w0 : World) (wb g h : Nat) (o : St4) (S : Sta) (X : Doc) (w : World) (H0 : PS w0 wb g h S X w) (K : Lk S X) (hn : S.stamps.length ≤ 300) (ho : o.Ok) (hk : Hid (o.k = 3)) : Calls Try.prog 20 #[ptr wb 0, .agg #[vI o.k, vI o.c, vU o.a, vU o.v]] w fun e w' => e = .returned (.bool true) ∧ Done w0 wb g h S.stamps.length w' := by
  have hA := ho.a
  have a0 := hA.1
  have a1 := hA.2
  have hU0 : U64 0 := ⟨by decide, by decide⟩
  have hl := K.len
  have hst := K.reached
  have hr1 : S.reached ≤ S.stamps.length := by have := K.ok.cnt; omega
  have hr0 := K.st2.pos
  have hfl : X.first.length < 1000000000 := by rw [K.first]; have := K.ok.w2; omega
  have hb0 := K.bad0 o.c
  have hb1 := K.bad o.c o.a a0
  go_enter Try.func20, Try.ntmps20
  go_upto_region 1 with fail
  have H := H0.box o
  generalize w.heap.size = ob at H ⊢
  generalize hy : World.alloc w _ = y0
  have hy' : w.alloc (.cells #[vI o.k, vI o.c, vU o.a, vU o.v] 43) = y0 := hy
  rw [hy'] at H
  clear hy hy' H0
  obtain ⟨zg, zh, zk, zc, za, zv⟩ := H.cells
  obtain ⟨D, hD, lowD⟩ := H.doc
  go_quiet ((go_at_call 37; exact Calls.quiet_of_same (bad_c h X D o.c 0 _ (hD.keep fun _ _ => rfl) hU0 hfl)))
  replace H := H.drew nq
  replace hD := hD.grow (w' := y0.drewN nq) ⟨rfl, rfl, rfl, Nat.le_refl _, fun _ _ => rfl⟩
  generalize y0.drewN nq = y1 at H hD ⊢
  clear zg zh zk zc za zv
  obtain ⟨zg, zh, zk, zc, za, zv⟩ := H.cells
  go_upto_region 2 with fail
  go_quiet ((go_at_call 37; exact Calls.quiet_of_same (bad_c h X D o.c o.a _ (hD.keep fun _ _ => rfl) hA hfl)))
  replace H := H.drew nq
  generalize y1.drewN nq = y2 at H ⊢
  clear zg zh zk zc za zv hD lowD
  obtain ⟨zg, zh, zk, zc, za, zv⟩ := H.cells
  rw [hk.out] at zk
  cases hc : hasCoreB S o.c
  · rw [hc] at hb0
    replace hb0 : badB X o.c 0 = true := hb0
    rw [hb0]
    have hde : drainE S o.c = 1 := by rw [drainE, hc]; rfl
    have hdl : drainL S o.c = nilL := by rw [drainL, hc]; rfl
    have hds : drainS S o.c = S := by rw [drainS, hde]; rfl
    go_upto_region 17 with fail
    refine Chn.wp_region_chainF (CD3 w0 wb g h ob o S S X nilL) [6, 11] [2, 2, 2, 2, 2, 2, 2, 2, 2, 2, 1, 2, 2] 10 (fun u => [ptr wb 0, ptr wb 0, ptr wb 0, ptr g 0, ptr ob 1, vI o.c, .tuple #[Lt.val nilL, vI 1], .tuple #[Lt.val nilL, vI 1], Lt.val nilL, vI 1, u, undef, vI 1]) (by kernel_rfl) (by kernel_rfl) (by kernel_rfl) (by kernel_rfl) (by kernel_rfl) (by kernel_rfl) (fun v q hq => by match q, hq with | 0, _ => rfl | 1, _ => rfl | 2, _ => rfl | 3, _ => rfl | 4, _ => rfl | 5, _ => rfl | 6, _ => rfl | 7, _ => rfl | 8, _ => rfl | 9, _ => rfl | 11, _ => rfl | 12, _ => rfl | n + 13, _ => rfl) (fun v => rfl) (by decide) H.drew1 ?_
    intro u
    clear zg zh zk zc za zv
    iterate 6
      refine ⟨fun j ou w1 hj hn hC => by obtain ⟨S9, X9, hz⟩ := cd3_sw hC; obtain ⟨zg, zh, zk, zc, za, zv⟩ := hz.cells; exact Chn.upon_pure hC (fun F hF => by (go_simp <;> exact hF)), ?_⟩
      simp only [Act.put, List.setIfInBounds_toArray, List.set_cons_succ, List.set_cons_zero]
    refine ⟨fun ou w1 hn hC => by
      match ou, hC with
      | none, hC =>
        have hC2 : SW w0 wb g h ob o S X w1 := hC
        obtain ⟨L, M, low⟩ := hC2.mem
        refine upon_of_call (drain_c g S L o.c w1 M K.ok (by omega)) ?_ (fun F2 hF2 => by (go_simp <;> exact hF2))
        rintro e w2 ⟨rfl, T⟩
        rw [hds] at T
        exact ⟨_, rfl, by rw [hdl, hde], hC2.memTurn M low T⟩
      | some v, hC =>
        obtain ⟨b, L, rfl, R⟩ := hC
        refine upon_of_call (drain_c g S L o.c w1 R.mem K.ok (by omega)) ?_ (fun F2 hF2 => by (go_simp <;> exact hF2))
        rintro e w2 ⟨rfl, T⟩
        rw [hds] at T
        obtain ⟨L2, R2⟩ := R.memTurn T
        exact ⟨_, rfl, by rw [hdl, hde], b, L2, rfl, R2⟩, ?_⟩
    simp only [Act.put, List.setIfInBounds_toArray, List.set_cons_succ, List.set_cons_zero]
    iterate 3
      refine ⟨fun j ou w1 hj hn hC => by obtain ⟨S9, X9, hz⟩ := cd3_sw hC; obtain ⟨zg, zh, zk, zc, za, zv⟩ := hz.cells; exact Chn.upon_pure hC (fun F hF => by (go_simp <;> exact hF)), ?_⟩
      simp only [Act.put, List.setIfInBounds_toArray, List.set_cons_succ, List.set_cons_zero]
    refine ⟨fun j w1 hj hC => by
      match j, hC with
      | 0, hC =>
        obtain ⟨L, M, low⟩ := SW.mem hC
        exact upon_any (v := ptr w1.heap.size 0) (w' := w1.alloc (.cells nilL.cells 59)) (fun F hF => by (go_simp <;> exact hF)) ⟨_, L, rfl, FR.var hC M low⟩
      | 1, hC =>
        obtain ⟨L, M, low⟩ := SW.mem hC
        exact upon_any (v := ptr w1.heap.size 0) (w' := w1.alloc (.cells nilL.cells 59)) (fun F hF => by (go_simp <;> exact hF)) ⟨_, L, rfl, FR.var hC M low⟩, ?_⟩
    simp only [Act.put, List.setIfInBounds_toArray, List.set_cons_succ, List.set_cons_zero]
    refine ⟨fun ou w1 hn hC => by
      obtain rfl := hn (by kernel_rfl)
      obtain ⟨b, L, rfl, R⟩ := hC
      obtain ⟨h1, h2⟩ := R.setVar nilL
      exact chn_store 59 _ _ rfl b 0 rfl _ rfl h1 ⟨b, L, rfl, h2⟩, ?_⟩
    simp only [Act.put, List.setIfInBounds_toArray, List.set_cons_succ, List.set_cons_zero]
    refine ⟨fun j ou w1 hj hn hC => by obtain ⟨S9, X9, hz⟩ := cd3_sw hC; obtain ⟨zg, zh, zk, zc, za, zv⟩ := hz.cells; exact Chn.upon_pure hC (fun F hF => by (go_simp <;> exact hF)), ?_⟩
    simp only [Act.put, List.setIfInBounds_toArray, List.set_cons_succ, List.set_cons_zero]
    intro y3 hC
    obtain ⟨b, L, rfl, R⟩ := hC
    obtain ⟨d0, d1, d2⟩ := R.cellsAt
    replace d0 : y3.cell? ⟨b, 0, none⟩ = some (vU 0) := d0
    replace d1 : y3.cell? ⟨b, 1, none⟩ = some (vU 0) := d1
    replace d2 : y3.cell? ⟨b, 2, none⟩ = some (vI 0) := d2
    go_wp2_with ((with_reducible refine wpList_eql_lt rfl _ _ rfl 0 0 0 0 0 0 rfl rfl ?_); simp only [Act.put, List.setIfInBounds_toArray, List.set_cons_succ, List.set_cons_zero]; rw [show eqL ⟨0, 0, 0⟩ ⟨0, 0, 0⟩ = true from rfl])
    go_ret
    exact ⟨rfl, S, X, R.sw.ps, K, by omega⟩
  · rw [hc] at hb0
    replace hb0 : badB X o.c 0 = false := hb0
    rw [hb0]
    cases hbu : bufOf S o.c with
    | nil =>
      obtain ⟨hh, hds, hde, hdl, hdx, hdd⟩ := K.none hc hbu
      have hdt : drainDT X o.c = 0 := by rw [drainDT, hh]; rfl
      go_upto_region 17 with fail
      refine Chn.wp_region_chainF (CD3 w0 wb g h ob o S S X nilL) [6, 11] [2, 2, 2, 2, 2, 2, 2, 2, 2, 2, 1, 2, 2] 10 (fun u => [ptr wb 0, ptr wb 0, ptr wb 0, ptr g 0, ptr ob 1, vI o.c, .tuple #[Lt.val nilL, vI 31], .tuple #[Lt.val nilL, vI 31], Lt.val nilL, vI 31, u, undef, vI 31]) (by kernel_rfl) (by kernel_rfl) (by kernel_rfl) (by kernel_rfl) (by kernel_rfl) (by kernel_rfl) (fun v q hq => by match q, hq with | 0, _ => rfl | 1, _ => rfl | 2, _ => rfl | 3, _ => rfl | 4, _ => rfl | 5, _ => rfl | 6, _ => rfl | 7, _ => rfl | 8, _ => rfl | 9, _ => rfl | 11, _ => rfl | 12, _ => rfl | n + 13, _ => rfl) (fun v => rfl) (by decide) H.drew1 ?_
      intro u
      clear zg zh zk zc za zv
      iterate 6
        refine ⟨fun j ou w1 hj hn hC => by obtain ⟨S9, X9, hz⟩ := cd3_sw hC; obtain ⟨zg, zh, zk, zc, za, zv⟩ := hz.cells; exact Chn.upon_pure hC (fun F hF => by (go_simp <;> exact hF)), ?_⟩
        simp only [Act.put, List.setIfInBounds_toArray, List.set_cons_succ, List.set_cons_zero]
      refine ⟨fun ou w1 hn hC => by
        match ou, hC with
        | none, hC =>
          have hC2 : SW w0 wb g h ob o S X w1 := hC
          obtain ⟨L, M, low⟩ := hC2.mem
          refine upon_of_call (drain_c g S L o.c w1 M K.ok (by omega)) ?_ (fun F2 hF2 => by (go_simp <;> exact hF2))
          rintro e w2 ⟨rfl, T⟩
          rw [hds] at T
          exact ⟨_, rfl, by rw [hdl, hde], hC2.memTurn M low T⟩
        | some v, hC =>
          obtain ⟨b, L, rfl, R⟩ := hC
          refine upon_of_call (drain_c g S L o.c w1 R.mem K.ok (by omega)) ?_ (fun F2 hF2 => by (go_simp <;> exact hF2))
          rintro e w2 ⟨rfl, T⟩
          rw [hds] at T
          obtain ⟨L2, R2⟩ := R.memTurn T
          exact ⟨_, rfl, by rw [hdl, hde], b, L2, rfl, R2⟩, ?_⟩
      simp only [Act.put, List.setIfInBounds_toArray, List.set_cons_succ, List.set_cons_zero]
      iterate 3
        refine ⟨fun j ou w1 hj hn hC => by obtain ⟨S9, X9, hz⟩ := cd3_sw hC; obtain ⟨zg, zh, zk, zc, za, zv⟩ := hz.cells; exact Chn.upon_pure hC (fun F hF => by (go_simp <;> exact hF)), ?_⟩
        simp only [Act.put, List.setIfInBounds_toArray, List.set_cons_succ, List.set_cons_zero]
      refine ⟨fun j w1 hj hC => by
        match j, hC with
        | 0, hC =>
          obtain ⟨L, M, low⟩ := SW.mem hC
          exact upon_any (v := ptr w1.heap.size 0) (w' := w1.alloc (.cells nilL.cells 59)) (fun F hF => by (go_simp <;> exact hF)) ⟨_, L, rfl, FR.var hC M low⟩
        | 1, hC =>
          obtain ⟨L, M, low⟩ := SW.mem hC
          exact upon_any (v := ptr w1.heap.size 0) (w' := w1.alloc (.cells nilL.cells 59)) (fun F hF => by (go_simp <;> exact hF)) ⟨_, L, rfl, FR.var hC M low⟩, ?_⟩
      simp only [Act.put, List.setIfInBounds_toArray, List.set_cons_succ, List.set_cons_zero]
      refine ⟨fun ou w1 hn hC => by
        obtain rfl := hn (by kernel_rfl)
        obtain ⟨b, L, rfl, R⟩ := hC
        obtain ⟨h1, h2⟩ := R.setVar nilL
        exact chn_store 59 _ _ rfl b 0 rfl _ rfl h1 ⟨b, L, rfl, h2⟩, ?_⟩
      simp only [Act.put, List.setIfInBounds_toArray, List.set_cons_succ, List.set_cons_zero]
      refine ⟨fun j ou w1 hj hn hC => by obtain ⟨S9, X9, hz⟩ := cd3_sw hC; obtain ⟨zg, zh, zk, zc, za, zv⟩ := hz.cells; exact Chn.upon_pure hC (fun F hF => by (go_simp <;> exact hF)), ?_⟩
      simp only [Act.put, List.setIfInBounds_toArray, List.set_cons_succ, List.set_cons_zero]
      intro y3 hC
      obtain ⟨b, L, rfl, R⟩ := hC
      obtain ⟨d0, d1, d2⟩ := R.cellsAt
      obtain ⟨zg, zh, zk, zc, za, zv⟩ := R.sw.cells
      go_upto_region 20 with fail
      refine Chn.wp_region_chain (fun n y => FR w0 wb g h ob o S X [nilL] L (vsl b) y) [6] [ptr wb 0, ptr wb 0, ptr wb 1, ptr h 0, ptr ob 1, vI o.c, .tuple #[vI 0, vI 31], .tuple #[vI 0, vI 31], vI 0, vI 31, vI 0, vI 31] (by kernel_rfl) (by kernel_rfl) (by kernel_rfl) (by kernel_rfl) R.drew1 ?_
      clear zg zh zk zc za zv d0 d1 d2
      iterate 6
        refine ⟨fun j w1 hC => by obtain ⟨zg, zh, zk, zc, za, zv⟩ := (FR.sw hC).cells; exact Chn.upon_pure hC (fun F hF => by (go_simp <;> exact hF)), ?_⟩
        simp only [Act.put, List.setIfInBounds_toArray, List.set_cons_succ, List.set_cons_zero]
      refine ⟨fun w1 hC => by
        have hC2 : FR w0 wb g h ob o S X [nilL] L (vsl b) w1 := hC
        obtain ⟨L, M, low⟩ := hC2.sw.mem
        obtain ⟨D, hD, lowD⟩ := hC2.sw.doc
        refine upon_of_call (drainD_c h X D o.c w1 hD (by omega) (by omega) (by omega)) ?_ (fun F2 hF2 => by (go_simp <;> exact hF2))
        rintro e w2 ⟨rfl, T⟩
        exact ⟨_, rfl, by simp only [hdt, hdd], (by have T2 := hC2.docTurn hD lowD T; rw [hdx] at T2; exact T2)⟩, ?_⟩
      simp only [Act.put, List.setIfInBounds_toArray, List.set_cons_succ, List.set_cons_zero]
      iterate 5
        refine ⟨fun j w1 hC => by exact Chn.upon_pure hC (fun F hF => by (go_simp <;> exact hF)), ?_⟩
        simp only [Act.put, List.setIfInBounds_toArray, List.set_cons_succ, List.set_cons_zero]
      intro y4 hC
      replace R : FR w0 wb g h ob o S X [nilL] L (vsl b) y4 := hC
      clear hC
      obtain ⟨zg, zh, zk, zc, za, zv⟩ := R.sw.cells
      obtain ⟨d0, d1, d2⟩ := R.cellsAt
      replace d0 : y4.cell? ⟨b, 0, none⟩ = some (vU 0) := d0
      replace d1 : y4.cell? ⟨b, 1, none⟩ = some (vU 0) := d1
      replace d2 : y4.cell? ⟨b, 2, none⟩ = some (vI 0) := d2
      go_wp2_with ((with_reducible refine wpList_eql_lt rfl _ _ rfl 0 0 0 0 0 0 rfl rfl ?_); simp only [Act.put, List.setIfInBounds_toArray, List.set_cons_succ, List.set_cons_zero]; rw [show eqL ⟨0, 0, 0⟩ ⟨0, 0, 0⟩ = true from rfl])
      go_ret
      exact ⟨rfl, S, X, R.sw.ps, K, by omega⟩
    | cons z tl =>
      obtain ⟨hde, hdl, _⟩ := drain_gone hc hbu
      have K2 := lk_drain K hc
      obtain ⟨k, x, hk1, hk2, hk3⟩ := K.lates hc 0 z (by rw [hbu]; rfl)
      obtain ⟨x2, hx2, ex1, ex2⟩ := drainDS_all (c := o.c) hk2
      have hhd : heldD X o.c = z.t :: tl.map (·.t) := by rw [(K.held hc).1, hbu]; rfl
      have hdt : drainDT X o.c = (k : Int) + 1 := by rw [drainDT, hhd, List.headD_cons, hk3]
      have hdd : drainDE X o.c = 0 := by rw [drainDE, hhd]; rfl
      have heq : eqL z ⟨x2.a, x2.v, (k : Int) + 1⟩ = true := by rw [ex1, ex2, hk3]; exact eqL_refl _
      have hsl : (drainS S o.c).stamps.length = S.stamps.length := (drain_len S o.c).2.1
      have hal : (drainDS X o.c).all.length = X.all.length := (drainDS_len X o.c).1
      clear hk3 ex1 ex2
      go_upto_region 17 with fail
      refine Chn.wp_region_chainF (CD3 w0 wb g h ob o S (drainS S o.c) X z) [6, 11] [2, 2, 2, 2, 2, 2, 2, 2, 2, 2, 1, 2, 2] 10 (fun u => [ptr wb 0, ptr wb 0, ptr wb 0, ptr g 0, ptr ob 1, vI o.c, .tuple #[Lt.val z, vI 0], .tuple #[Lt.val z, vI 0], Lt.val z, vI 0, u, undef, vI 0]) (by kernel_rfl) (by kernel_rfl) (by kernel_rfl) (by kernel_rfl) (by kernel_rfl) (by kernel_rfl) (fun v q hq => by match q, hq with | 0, _ => rfl | 1, _ => rfl | 2, _ => rfl | 3, _ => rfl | 4, _ => rfl | 5, _ => rfl | 6, _ => rfl | 7, _ => rfl | 8, _ => rfl | 9, _ => rfl | 11, _ => rfl | 12, _ => rfl | n + 13, _ => rfl) (fun v => rfl) (by decide) H.drew1 ?_
      intro u
      clear zg zh zk zc za zv
      iterate 6
        refine ⟨fun j ou w1 hj hn hC => by obtain ⟨S9, X9, hz⟩ := cd3_sw hC; obtain ⟨zg, zh, zk, zc, za, zv⟩ := hz.cells; exact Chn.upon_pure hC (fun F hF => by (go_simp <;> exact hF)), ?_⟩
        simp only [Act.put, List.setIfInBounds_toArray, List.set_cons_succ, List.set_cons_zero]
      refine ⟨fun ou w1 hn hC => by
        match ou, hC with
        | none, hC =>
          have hC2 : SW w0 wb g h ob o S X w1 := hC
          obtain ⟨L, M, low⟩ := hC2.mem
          refine upon_of_call (drain_c g S L o.c w1 M K.ok (by omega)) ?_ (fun F2 hF2 => by (go_simp <;> exact hF2))
          rintro e w2 ⟨rfl, T⟩
          exact ⟨_, rfl, by rw [hdl, hde], hC2.memTurn M low T⟩
        | some v, hC =>
          obtain ⟨b, L, rfl, R⟩ := hC
          refine upon_of_call (drain_c g S L o.c w1 R.mem K.ok (by omega)) ?_ (fun F2 hF2 => by (go_simp <;> exact hF2))
          rintro e w2 ⟨rfl, T⟩
          obtain ⟨L2, R2⟩ := R.memTurn T
          exact ⟨_, rfl, by rw [hdl, hde], b, L2, rfl, R2⟩, ?_⟩
      simp only [Act.put, List.setIfInBounds_toArray, List.set_cons_succ, List.set_cons_zero]
      iterate 3
        refine ⟨fun j ou w1 hj hn hC => by obtain ⟨S9, X9, hz⟩ := cd3_sw hC; obtain ⟨zg, zh, zk, zc, za, zv⟩ := hz.cells; exact Chn.upon_pure hC (fun F hF => by (go_simp <;> exact hF)), ?_⟩
        simp only [Act.put, List.setIfInBounds_toArray, List.set_cons_succ, List.set_cons_zero]
      refine ⟨fun j w1 hj hC => by
        match j, hC with
        | 0, hC =>
          obtain ⟨L, M, low⟩ := SW.mem hC
          exact upon_any (v := ptr w1.heap.size 0) (w' := w1.alloc (.cells nilL.cells 59)) (fun F hF => by (go_simp <;> exact hF)) ⟨_, L, rfl, FR.var hC M low⟩
        | 1, hC =>
          obtain ⟨L, M, low⟩ := SW.mem hC
          exact upon_any (v := ptr w1.heap.size 0) (w' := w1.alloc (.cells nilL.cells 59)) (fun F hF => by (go_simp <;> exact hF)) ⟨_, L, rfl, FR.var hC M low⟩, ?_⟩
      simp only [Act.put, List.setIfInBounds_toArray, List.set_cons_succ, List.set_cons_zero]
      refine ⟨fun ou w1 hn hC => by
        obtain rfl := hn (by kernel_rfl)
        obtain ⟨b, L, rfl, R⟩ := hC
        obtain ⟨h1, h2⟩ := R.setVar z
        exact chn_store 59 _ _ rfl b 0 rfl _ rfl h1 ⟨b, L, rfl, h2⟩, ?_⟩
      simp only [Act.put, List.setIfInBounds_toArray, List.set_cons_succ, List.set_cons_zero]
      refine ⟨fun j ou w1 hj hn hC => by obtain ⟨S9, X9, hz⟩ := cd3_sw hC; obtain ⟨zg, zh, zk, zc, za, zv⟩ := hz.cells; exact Chn.upon_pure hC (fun F hF => by (go_simp <;> exact hF)), ?_⟩
      simp only [Act.put, List.setIfInBounds_toArray, List.set_cons_succ, List.set_cons_zero]
      intro y3 hC
      obtain ⟨b, L, rfl, R⟩ := hC
      obtain ⟨d0, d1, d2⟩ := R.cellsAt
      obtain ⟨zg, zh, zk, zc, za, zv⟩ := R.sw.cells
      go_upto_region 20 with fail
      refine Chn.wp_region_chain (fun n y => FR w0 wb g h ob o (drainS S o.c) (if n = 0 then X else (drainDS X o.c)) [z] L (vsl b) y) [6] [ptr wb 0, ptr wb 0, ptr wb 1, ptr h 0, ptr ob 1, vI o.c, .tuple #[vI ((k : Int) + 1), vI 0], .tuple #[vI ((k : Int) + 1), vI 0], vI ((k : Int) + 1), vI 0, vI ((k : Int) + 1), vI 0] (by kernel_rfl) (by kernel_rfl) (by kernel_rfl) (by kernel_rfl) R.drew1 ?_
      clear zg zh zk zc za zv d0 d1 d2
      iterate 6
        refine ⟨fun j w1 hC => by obtain ⟨zg, zh, zk, zc, za, zv⟩ := (FR.sw hC).cells; exact Chn.upon_pure hC (fun F hF => by (go_simp <;> exact hF)), ?_⟩
        simp only [Act.put, List.setIfInBounds_toArray, List.set_cons_succ, List.set_cons_zero]
      refine ⟨fun w1 hC => by
        have hC2 : FR w0 wb g h ob o (drainS S o.c) X [z] L (vsl b) w1 := hC
        obtain ⟨L, M, low⟩ := hC2.sw.mem
        obtain ⟨D, hD, lowD⟩ := hC2.sw.doc
        refine upon_of_call (drainD_c h X D o.c w1 hD (by omega) (by omega) (by omega)) ?_ (fun F2 hF2 => by (go_simp <;> exact hF2))
        rintro e w2 ⟨rfl, T⟩
        exact ⟨_, rfl, by simp only [hdt, hdd], hC2.docTurn hD lowD T⟩, ?_⟩
      simp only [Act.put, List.setIfInBounds_toArray, List.set_cons_succ, List.set_cons_zero]
      iterate 5
        refine ⟨fun j w1 hC => by exact Chn.upon_pure hC (fun F hF => by (go_simp <;> exact hF)), ?_⟩
        simp only [Act.put, List.setIfInBounds_toArray, List.set_cons_succ, List.set_cons_zero]
      intro y4 hC
      replace R : FR w0 wb g h ob o (drainS S o.c) (drainDS X o.c) [z] L (vsl b) y4 := hC
      clear hC
      obtain ⟨zg, zh, zk, zc, za, zv⟩ := R.sw.cells
      obtain ⟨d0, d1, d2⟩ := R.cellsAt
      obtain ⟨D, hD, lowD⟩ := R.sw.doc
      go_wp2_with (go_at_call 41; refine (late_c wb g h (drainDS X o.c) D z k x2 _ hD R.sw.wb hx2 (by omega)).mono ?_; rintro e y5 ⟨rfl, hB⟩; dsimp only; rw [heq])
      replace R := R.grow hB
      go_ret
      exact ⟨rfl, _, _, R.sw.ps, K2, by omega⟩
end Go.Proofs.Ytjkjbcnafpljoaa
/- A step of the play: a flush. -/
namespace Go.Proofs.Ytjkjbcnafpljoaa
open Go.RowKit
set_option linter.unusedVariables false
set_option linter.unusedSimpArgs false

set_option maxRecDepth 8000 in
set_option maxHeartbeats 2000000 in
theorem step_4 (w0 : World) (wb g h : Nat) (o : St4) (S : Sta) (X : Doc) (w : World) (H0 : PS w0 wb g h S X w) (K : Lk S X) (hn : S.stamps.length ≤ 300) (ho : o.Ok) (hk : Hid (o.k = 4)) : Calls Try.prog 20 #[ptr wb 0, .agg #[vI o.k, vI o.c, vU o.a, vU o.v]] w fun e w' => e = .returned (.bool true) ∧ Done w0 wb g h S.stamps.length w' := by
  have hA := ho.a
  have a0 := hA.1
  have a1 := hA.2
  have hU0 : U64 0 := ⟨by decide, by decide⟩
  have hl := K.len
  have hst := K.reached
  have hr1 : S.reached ≤ S.stamps.length := by have := K.ok.cnt; omega
  have hr0 := K.st2.pos
  have hfl : X.first.length < 1000000000 := by rw [K.first]; have := K.ok.w2; omega
  have hb0 := K.bad0 o.c
  have hb1 := K.bad o.c o.a a0
  go_enter Try.func20, Try.ntmps20
  go_upto_region 1 with fail
  have H := H0.box o
  generalize w.heap.size = ob at H ⊢
  generalize hy : World.alloc w _ = y0
  have hy' : w.alloc (.cells #[vI o.k, vI o.c, vU o.a, vU o.v] 43) = y0 := hy
  rw [hy'] at H
  clear hy hy' H0
  obtain ⟨zg, zh, zk, zc, za, zv⟩ := H.cells
  obtain ⟨D, hD, lowD⟩ := H.doc
  go_quiet ((go_at_call 37; exact Calls.quiet_of_same (bad_c h X D o.c 0 _ (hD.keep fun _ _ => rfl) hU0 hfl)))
  replace H := H.drew nq
  replace hD := hD.grow (w' := y0.drewN nq) ⟨rfl, rfl, rfl, Nat.le_refl _, fun _ _ => rfl⟩
  generalize y0.drewN nq = y1 at H hD ⊢
  clear zg zh zk zc za zv
  obtain ⟨zg, zh, zk, zc, za, zv⟩ := H.cells
  go_upto_region 2 with fail
  go_quiet ((go_at_call 37; exact Calls.quiet_of_same (bad_c h X D o.c o.a _ (hD.keep fun _ _ => rfl) hA hfl)))
  replace H := H.drew nq
  generalize y1.drewN nq = y2 at H ⊢
  clear zg zh zk zc za zv hD lowD
  obtain ⟨zg, zh, zk, zc, za, zv⟩ := H.cells
  rw [hk.out] at zk
  cases hc : hasCoreB S o.c
  · rw [hc] at hb0
    replace hb0 : badB X o.c 0 = true := hb0
    rw [hb0]
    go_upto_region 26 with fail
    refine Chn.wp_region_chain (fun n y => SW w0 wb g h ob o S X y) [6] [ptr wb 0, ptr wb 0, ptr wb 0, ptr g 0, ptr ob 1, vI o.c, .tuple #[.slice none 0 0, vI 1], .tuple #[.slice none 0 0, vI 1], .slice none 0 0, vI 1, .slice none 0 0, vI 1] (by kernel_rfl) (by kernel_rfl) (by kernel_rfl) (by kernel_rfl) H.drew1 ?_
    clear zg zh zk zc za zv
    iterate 6
      refine ⟨fun j w1 hC => by obtain ⟨zg, zh, zk, zc, za, zv⟩ := SW.cells hC; exact Chn.upon_pure hC (fun F hF => by (go_simp <;> exact hF)), ?_⟩
      simp only [Act.put, List.setIfInBounds_toArray, List.set_cons_succ, List.set_cons_zero]
    refine ⟨fun w1 hC => by
      have hC2 : SW w0 wb g h ob o S X w1 := hC
      obtain ⟨L, M, low⟩ := hC2.mem
      obtain ⟨D, hD, lowD⟩ := hC2.doc
      refine upon_of_call (flush_no g S L o.c w1 M hc) ?_ (fun F2 hF2 => by (go_simp <;> exact hF2))
      rintro e w2 ⟨rfl, rfl⟩
      exact ⟨_, rfl, rfl, hC2⟩, ?_⟩
    simp only [Act.put, List.setIfInBounds_toArray, List.set_cons_succ, List.set_cons_zero]
    iterate 5
      refine ⟨fun j w1 hC => by exact Chn.upon_pure hC (fun F hF => by (go_simp <;> exact hF)), ?_⟩
      simp only [Act.put, List.setIfInBounds_toArray, List.set_cons_succ, List.set_cons_zero]
    intro y3 hC
    replace H : SW w0 wb g h ob o S X y3 := hC
    clear hC
    obtain ⟨zg, zh, zk, zc, za, zv⟩ := H.cells
    go_wp2
    go_ret
    exact ⟨rfl, S, X, H.ps, K, by omega⟩
  · rw [hc] at hb0
    replace hb0 : badB X o.c 0 = false := hb0
    rw [hb0]
    have K2 := lk_flush K hc
    have hlat := K.latesF hc
    have hbl := (K.held hc).2
    have hfl2 : (flushS S o.c).stamps.length = S.stamps.length := (dr_len S o.c _).2.1
    have hx2 : (flushDS X o.c).all.length = X.all.length := (drD_len X o.c _).1
    have hb8 : (bufOf S o.c).length < 1000000 := by have := heldF_len o.c X.all 0; have e : (heldF o.c X.all 0).length = (bufOf S o.c).length := hbl; omega
    go_upto_region 26 with fail
    refine RelJ.wp_region_call 6 (fun y => SW w0 wb g h ob o S X y) (fun u y => ∃ lv L, u = .tuple #[lv, vI 0] ∧ FR w0 wb g h ob o (flushS S o.c) X (bufOf S o.c) L lv y) (fun u => [ptr wb 0, ptr wb 0, ptr wb 0, ptr g 0, ptr ob 1, vI o.c, u, u, ext u 0, ext u 1, ext u 0, ext u 1]) (by kernel_rfl) (by kernel_rfl) (by kernel_rfl) (by decide) (fun v q hq => by match q, hq with | 0, _ => rfl | 1, _ => rfl | 2, _ => rfl | 3, _ => rfl | 4, _ => rfl | 5, _ => rfl | n + 6, hq => exact absurd hq (by omega)) (fun v => rfl) (fun v => rfl) H.drew1 ?_
    intro u
    clear zg zh zk zc za zv
    iterate 6
      refine ⟨by
        rw [if_pos (by decide)]
        intro w1 hC
        obtain ⟨S9, X9, hz⟩ : ∃ S9 X9, SW w0 wb g h ob o S9 X9 w1 := hC.elim (fun hC => ⟨_, _, hC⟩) (fun ⟨u, lv, L, _, hr⟩ => ⟨_, _, hr.sw⟩)
        obtain ⟨zg, zh, zk, zc, za, zv⟩ := hz.cells
        exact Chn.upon_pure (C := fun y => y = w1) rfl (fun F hF => by (go_simp <;> exact hF)), ?_⟩
      simp only [Act.put, List.setIfInBounds_toArray, List.set_cons_succ, List.set_cons_zero]
    refine ⟨by
      rw [if_neg (by decide), if_pos rfl]
      intro w1 hC
      obtain ⟨L, M, low⟩ := SW.mem hC
      refine upon_of_call (flush_c g S L o.c w1 M K.ok (by omega) hc) ?_ (fun F2 hF2 => by (go_simp <;> exact hF2))
      rintro e w2 ⟨v, rfl, T⟩
      obtain ⟨L2, hR⟩ := SW.turnR hC M low T
      exact ⟨_, rfl, v, L2, rfl, hR⟩, ?_⟩
    simp only [Act.put, List.setIfInBounds_toArray, List.set_cons_succ, List.set_cons_zero]
    iterate 5
      refine ⟨by
        rw [if_neg (by decide), if_neg (by decide)]
        intro w1 hF
        obtain ⟨lv, L, rfl, _⟩ := hF
        exact Chn.upon_pure (C := fun y => y = w1) rfl (fun F hF => by (go_simp <;> exact hF)), ?_⟩
      simp only [Act.put, List.setIfInBounds_toArray, List.set_cons_succ, List.set_cons_zero]
    intro y3 hF
    obtain ⟨lv, L, rfl, R⟩ := hF
    obtain ⟨la, lc, rfl⟩ := R.slice
    clear H
    obtain ⟨zg, zh, zk, zc, za, zv⟩ := R.sw.cells
    simp only [ext, Array.getD_eq_getD_getElem?]
    go_upto_region 29 with fail
    refine RelJ.wp_region_call 6 (fun y => FR w0 wb g h ob o (flushS S o.c) X (bufOf S o.c) L (.slice la (bufOf S o.c).length lc) y) (fun u y => ∃ ta tc, u = .slice ta (bufOf S o.c).length tc ∧ FR w0 wb g h ob o (flushS S o.c) (flushDS X o.c) (bufOf S o.c) L (.slice la (bufOf S o.c).length lc) y ∧ y.ownsRow w0.heap.size 3 1 u (bufOf S o.c).length ((heldD X o.c).map vI)) (fun u => [ptr wb 0, ptr wb 0, ptr wb 1, ptr h 0, ptr ob 1, vI o.c, u, u]) (by kernel_rfl) (by kernel_rfl) (by kernel_rfl) (by decide) (fun v q hq => by match q, hq with | 0, _ => rfl | 1, _ => rfl | 2, _ => rfl | 3, _ => rfl | 4, _ => rfl | 5, _ => rfl | n + 6, hq => exact absurd hq (by omega)) (fun v => rfl) (fun v => rfl) R.drew1 ?_
    intro u
    clear zg zh zk zc za zv
    iterate 6
      refine ⟨by
        rw [if_pos (by decide)]
        intro w1 hC
        obtain ⟨S9, X9, hz⟩ : ∃ S9 X9, SW w0 wb g h ob o S9 X9 w1 := hC.elim (fun hC => ⟨_, _, FR.sw hC⟩) (fun ⟨u, ta, tc, _, hr, _⟩ => ⟨_, _, hr.sw⟩)
        obtain ⟨zg, zh, zk, zc, za, zv⟩ := hz.cells
        exact Chn.upon_pure (C := fun y => y = w1) rfl (fun F hF => by (go_simp <;> exact hF)), ?_⟩
      simp only [Act.put, List.setIfInBounds_toArray, List.set_cons_succ, List.set_cons_zero]
    refine ⟨by
      rw [if_neg (by decide), if_pos rfl]
      intro w1 hC
      have hC2 : FR w0 wb g h ob o (flushS S o.c) X (bufOf S o.c) L (.slice la (bufOf S o.c).length lc) w1 := hC
      obtain ⟨D, hD, lowD⟩ := hC2.sw.doc
      refine upon_of_call (flushD_c h X D o.c w1 hD (by omega) (by omega) (by omega)) ?_ (fun F2 hF2 => by (go_simp <;> exact hF2))
      rintro e w2 ⟨ta, tc, rfl, T, R2⟩
      rw [hbl] at R2 ⊢
      exact ⟨_, rfl, ta, tc, rfl, hC2.docTurn hD lowD T, own_mono R2 hC2.sw.below.size⟩, ?_⟩
    simp only [Act.put, List.setIfInBounds_toArray, List.set_cons_succ, List.set_cons_zero]
    iterate 1
      refine ⟨by
        rw [if_neg (by decide), if_neg (by decide)]
        intro w1 hF
        obtain ⟨ta, tc, rfl, _⟩ := hF
        exact Chn.upon_pure (C := fun y => y = w1) rfl (fun F hF => by (go_simp <;> exact hF)), ?_⟩
      simp only [Act.put, List.setIfInBounds_toArray, List.set_cons_succ, List.set_cons_zero]
    intro y4 hF
    obtain ⟨ta, tc, rfl, R3, R4⟩ := hF
    obtain ⟨D, hD, lowD⟩ := R3.sw.doc
    go_upto_region 31 with (go_at_call 43; refine (lates_c wb g h (flushDS X o.c) D (bufOf S o.c) (heldD X o.c) la ta lc tc w0.heap.size w0.heap.size (bufOf S o.c).length _ hD R3.sw.wb (by omega) rfl hbl hb8 R3.row R4 hlat).mono ?_; rintro e y5 ⟨rfl, G⟩; dsimp only)
    replace H := R3.lated G
    go_wp2
    go_ret
    exact ⟨rfl, _, _, H.ps, K2, by omega⟩
end Go.Proofs.Ytjkjbcnafpljoaa
