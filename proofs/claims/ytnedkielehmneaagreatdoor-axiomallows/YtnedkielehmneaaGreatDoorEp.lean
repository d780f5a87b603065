/- The chapter's examples. -/
import Derived.Test.YtnedkielehmneaaGreatDoorEo
namespace Go.Proofs.YtnedkielehmneaaGreatDoor
open Go.RowKit
open Go.Shelf
set_option linter.unusedVariables false
set_option linter.unusedSimpArgs false
set_option maxRecDepth 8000

open Axm
set_option maxHeartbeats 32000000 in
theorem examples_c {w : World} (T : Tab w) : Calls Tryz.prog 9 #[] w fun e w' => e = .returned (.bool true) ∧ Below w.heap.size w w' := by
  have B := Below.refl w.heap.size w
  have G := Below.refl w.heap.size w
  go_enter Tryz.func9, Tryz.ntmps9
  go_upto_region 2 with (first | (go_at_call 24; with_reducible refine (wE_c 0 0 8 1 1 _).mono ?_; rintro e u1 ⟨rfl, g⟩; replace G := G.trans (g.mono G.size); clear g; dsimp only) | (go_at_call 25; with_reducible refine (rE_c 0 2 16 0 0 _).mono ?_; rintro e u2 ⟨rfl, g⟩; replace G := G.trans (g.mono G.size); clear g; dsimp only) | (go_at_call 24; with_reducible refine (wE_c 1 0 16 1 2 _).mono ?_; rintro e u3 ⟨rfl, g⟩; replace G := G.trans (g.mono G.size); clear g; dsimp only) | (go_at_call 25; with_reducible refine (rE_c 1 2 8 0 0 _).mono ?_; rintro e u4 ⟨rfl, g⟩; replace G := G.trans (g.mono G.size); clear g; dsimp only))
  generalize hu : World.alloc _ _ = u5
  have L : EvO u5 u4.heap.size (.slice (some ⟨u4.heap.size, 0, none⟩) 4 4) sbX := by rw [← hu]; exact evO_lit rfl rfl (by decide) (deps_nil _ _ (by simp))
  replace G := G.trans ((show Below u4.heap.size u4 u5 by rw [← hu]; exact below_alloc _ _).mono G.size)
  clear hu
  generalize u4.heap.size = p0 at L
  replace B := B.trans (G.mono B.size)
  replace T := T.grow G
  clear G
  have G := Below.refl u5.heap.size u5
  go_upto_region 3 with (first | (go_at_call 12; with_reducible refine (chk_sb (L.grow G) (T.grow G)).mono ?_; rintro e u6 ⟨rfl, g⟩; replace G := G.trans (g.mono G.size); clear g; dsimp only) | (with_reducible refine wpList_new27 rfl rfl ?_; intro u7 V1 g z; have q := G.size; replace G := G.trans (g.mono G.size); clear g z; simp only [Act.put, List.setIfInBounds_toArray, List.set_cons_succ, List.set_cons_zero]) | (with_reducible refine wpList_store27 (i' := true) (e' := true) (t' := true) rfl _ _ rfl rfl V1 rfl ?_; intro u8 V1 g z; replace G := G.trans (g.below G.size (fun k hk => by rw [hk]; exact q)); clear g z; simp only [Act.put, List.setIfInBounds_toArray, List.set_cons_succ, List.set_cons_zero]))
  clear q
  generalize u6.heap.size = q1 at V1
  replace B := B.trans (G.mono B.size)
  replace T := T.grow G
  replace L := L.grow G
  clear G
  have G := Below.refl u8.heap.size u8
  go_upto_region 4 with (first | (go_at_call 27; with_reducible refine (fE_c 0 1 _).mono ?_; rintro e u9 ⟨rfl, g⟩; replace G := G.trans (g.mono G.size); clear g; dsimp only) | (go_at_call 27; with_reducible refine (fE_c 1 1 _).mono ?_; rintro e u10 ⟨rfl, g⟩; replace G := G.trans (g.mono G.size); clear g; dsimp only) | (with_reducible refine wpList_app_full (es := sbX) (fs := fnX) rfl _ _ rfl rfl rfl ((L.grow G).grow (below_alloc u10 _)) (evO_lit rfl rfl (by decide) (deps_nil _ _ (by simp))) rfl rfl (by decide) (by decide) ?_; intro vv u11 L2 g; replace G := G.trans (((below_alloc u10 _).trans (g.mono (below_alloc u10 _).size)).mono G.size); clear g; simp only [Act.put, List.setIfInBounds_toArray, List.set_cons_succ, List.set_cons_zero]) | (go_at_call 12; with_reducible refine (chk_sf L2 (T.grow G)).mono ?_; rintro e u12 ⟨rfl, g⟩; replace G := G.trans (g.mono G.size); clear g; dsimp only) | (with_reducible refine wpList_new27 rfl rfl ?_; intro u13 V2 g z; have q := G.size; replace G := G.trans (g.mono G.size); clear g z; simp only [Act.put, List.setIfInBounds_toArray, List.set_cons_succ, List.set_cons_zero]) | (with_reducible refine wpList_store27 (i' := true) (e' := false) (t' := true) rfl _ _ rfl rfl V2 rfl ?_; intro u14 V2 g z; replace G := G.trans (g.below G.size (fun k hk => by rw [hk]; exact q)); clear g z; simp only [Act.put, List.setIfInBounds_toArray, List.set_cons_succ, List.set_cons_zero]))
  clear q L2
  generalize u12.heap.size = q2 at V2
  replace B := B.trans (G.mono B.size)
  replace T := T.grow G
  replace L := L.grow G
  replace V1 := V1.grow G
  clear G
  have G := Below.refl u14.heap.size u14
  go_upto_region 5 with (first | (go_at_call 24; with_reducible refine (wE_c 0 0 8 1 1 _).mono ?_; rintro e u15 ⟨rfl, g⟩; replace G := G.trans (g.mono G.size); clear g; dsimp only) | (go_at_call 25; with_reducible refine (rE_c 0 1 8 0 0 _).mono ?_; rintro e u16 ⟨rfl, g⟩; replace G := G.trans (g.mono G.size); clear g; dsimp only) | (go_at_call 12; refine Calls.mono (chk_co (base := u16.heap.size) (evO_lit rfl rfl (by decide) (deps_nil _ _ (by simp))) ((T.grow G).grow (below_alloc u16 _))) ?_; rintro e u17 ⟨rfl, g⟩; replace G := G.trans (((below_alloc u16 _).trans (g.mono (below_alloc u16 _).size)).mono G.size); clear g; dsimp only) | (with_reducible refine wpList_new27 rfl rfl ?_; intro u18 V3 g z; have q := G.size; replace G := G.trans (g.mono G.size); clear g z; simp only [Act.put, List.setIfInBounds_toArray, List.set_cons_succ, List.set_cons_zero]) | (with_reducible refine wpList_store27 (i' := false) (e' := true) (t' := true) rfl _ _ rfl rfl V3 rfl ?_; intro u19 V3 g z; replace G := G.trans (g.below G.size (fun k hk => by rw [hk]; exact q)); clear g z; simp only [Act.put, List.setIfInBounds_toArray, List.set_cons_succ, List.set_cons_zero]))
  clear q
  generalize u17.heap.size = q3 at V3
  replace B := B.trans (G.mono B.size)
  replace T := T.grow G
  replace L := L.grow G
  replace V1 := V1.grow G
  replace V2 := V2.grow G
  clear G
  have G := Below.refl u19.heap.size u19
  go_upto_region 7 with (first | (go_at_call 25; with_reducible refine (rE_c 0 0 8 0 0 _).mono ?_; rintro e u20 ⟨rfl, g⟩; replace G := G.trans (g.mono G.size); clear g; dsimp only) | (with_reducible refine wpList_new36 rfl rfl ?_; intro u21 X1 g z; have q := G.size; replace G := G.trans (g.mono G.size); clear g z; simp only [Act.put, List.setIfInBounds_toArray, List.set_cons_succ, List.set_cons_zero]) | (with_reducible refine wpList_store36 (e := rE 0 0 8 0 0) (s0 := nilS) (s1 := nilS) (s2 := nilS) rfl _ _ rfl rfl X1 rfl rfl (evA_nil _) ?_; intro u22 X1 g z; replace G := G.trans (g.below G.size (fun k hk => by rw [hk]; exact q)); clear g z; simp only [Act.put, List.setIfInBounds_toArray, List.set_cons_succ, List.set_cons_zero]) | (with_reducible refine wpList_cell rfl 4 _ _ rfl rfl X1 (.bool true) rfl inf4 rfl rfl (by decide) ?_; intro u23 X1 g; replace G := G.trans (g.below G.size (fun k hk => by rw [hk]; exact q)); clear g; simp only [Act.put, List.setIfInBounds_toArray, List.set_cons_succ, List.set_cons_zero]))
  clear q
  change LocE _ (evA (exE (rE 0 0 8 0 0)) nilS nilS nilS) _ at X1
  generalize u20.heap.size = x1 at X1
  replace B := B.trans (G.mono B.size)
  replace T := T.grow G
  replace L := L.grow G
  replace V1 := V1.grow G
  replace V2 := V2.grow G
  replace V3 := V3.grow G
  clear G
  have G := Below.refl u23.heap.size u23
  go_upto_region 9 with (first | (go_at_call 24; with_reducible refine (wE_c 0 1 8 1 2 _).mono ?_; rintro e u24 ⟨rfl, g⟩; replace G := G.trans (g.mono G.size); clear g; dsimp only) | (with_reducible refine wpList_new36 rfl rfl ?_; intro u25 X2 g z; have q := G.size; replace G := G.trans (g.mono G.size); clear g z; simp only [Act.put, List.setIfInBounds_toArray, List.set_cons_succ, List.set_cons_zero]) | (with_reducible refine wpList_store36 (e := wE 0 1 8 1 2) (s0 := nilS) (s1 := nilS) (s2 := nilS) rfl _ _ rfl rfl X2 rfl rfl (evA_nil _) ?_; intro u26 X2 g z; replace G := G.trans (g.below G.size (fun k hk => by rw [hk]; exact q)); clear g z; simp only [Act.put, List.setIfInBounds_toArray, List.set_cons_succ, List.set_cons_zero]) | (with_reducible refine wpList_cell rfl 4 _ _ rfl rfl X2 (.bool true) rfl inf4 rfl rfl (by decide) ?_; intro u27 X2 g; replace G := G.trans (g.below G.size (fun k hk => by rw [hk]; exact q)); clear g; simp only [Act.put, List.setIfInBounds_toArray, List.set_cons_succ, List.set_cons_zero]))
  clear q
  change LocE _ (evA (exE (wE 0 1 8 1 2)) nilS nilS nilS) _ at X2
  generalize u24.heap.size = x2 at X2
  replace B := B.trans (G.mono B.size)
  replace T := T.grow G
  replace L := L.grow G
  replace V1 := V1.grow G
  replace V2 := V2.grow G
  replace V3 := V3.grow G
  replace X1 := X1.grow G
  clear G
  refine RelJ.wp_region_J (XJ u27) (by kernel_rfl) (by kernel_rfl) ⟨Rel.below_draws (n := 1) (Below.refl _ _), (fun h => by cases h), (fun h => by cases h), (fun h => by cases h), (fun h => by cases h), (fun h => by cases h), (fun h => by cases h), (fun h => by cases h), (fun h => by cases h), (fun h => by cases h), (fun h => by cases h)⟩ ?_ ?_
  · intro i o ho m x w1 hmi hwi hcl H
    match i, ho with
    | 0, ho =>
      cases ho
      exact up_load _ rfl rfl (X1.grow H.b) H.s0
    | 1, ho =>
      cases ho
      exact up_load _ rfl rfl (X2.grow H.b) H.s1
    | 2, ho =>
      cases ho
      refine up_call24 _ _ _ _ _ rfl rfl rfl rfl rfl rfl rfl ((wE_c 1 0 8 2 1 w1).mono ?_)
      rintro e w2 ⟨rfl, g⟩
      exact ⟨_, rfl, (H.grow g).s2⟩
    | 3, ho =>
      have q0 := H.m0 (hwi 0 (by kernel_rfl))
      have q1 := H.m1 (hwi 1 (by kernel_rfl))
      have q2 := H.m2 (hwi 2 (by kernel_rfl))
      cases ho
      exact up_lit3 _ _ _ rfl ((RelJ.fill_at (k := 0) 3 (by kernel_rfl) (by show _ < 100; decide)).trans q0) ((RelJ.fill_at (k := 1) 3 (by kernel_rfl) (by show _ < 100; decide)).trans q1) ((RelJ.fill_at (k := 2) 3 (by kernel_rfl) (by show _ < 100; decide)).trans q2) ((H.grow (below_alloc w1 _)).s3 (evO_base H.b.size (evO_lit rfl rfl (by decide) (deps_nil _ _ (by simp)))))
    | 4, ho =>
      obtain ⟨g, e3, hL⟩ := H.m3 (hwi 3 (by kernel_rfl))
      have L4 := hL hmi
      cases ho
      refine up_call12 _ rfl rfl ((RelJ.fill_at (k := 3) 4 (by kernel_rfl) (by show _ < 100; decide)).trans e3) ((chk_at L4 (T.grow H.b)).mono ?_)
      rintro e w2 ⟨rfl, g2⟩
      exact ⟨_, rfl, (H.grow g2).s4⟩
    | 5, ho =>
      have q := H.m4 (hwi 4 (by kernel_rfl))
      cases ho
      exact up_move _ (.inl rfl) ((RelJ.fill_at (k := 4) 5 (by kernel_rfl) (by show _ < 100; decide)).trans q) H.s5
    | 6, ho =>
      have q := H.m5 (hwi 5 (by kernel_rfl))
      cases ho
      refine RelJ.upon_mono (F := fun u w' => u = .agg (verV true true false) ∧ w' = w1) ?_ ?_
      · unfold execOp
        dsimp only
        rw [(RelJ.fill_at (k := 5) 6 (by kernel_rfl) (by show _ < 100; decide)).trans q]
        exact ⟨rfl, rfl⟩
      · rintro u w2 ⟨rfl, rfl⟩
        exact H.s6
    | 7, ho =>
      have q := H.m5 (hwi 5 (by kernel_rfl))
      cases ho
      refine RelJ.upon_mono (F := fun u w' => u = vI 0 ∧ w' = w1) ?_ ?_
      · unfold execOp
        dsimp only
        rw [(RelJ.fill_at (k := 5) 7 (by kernel_rfl) (by show _ < 100; decide)).trans q]
        exact ⟨rfl, rfl⟩
      · rintro u w2 ⟨rfl, rfl⟩
        exact H.s7
    | 8, ho =>
      have h9 := falls (hcl 9 8 (by kernel_rfl)) hmi
      cases ho
      exact up_new27 rfl ((H.grow (below_alloc w1 _)).s8 h9 H.b.size (World.alloc_heap_new w1 _))
    | 9, ho =>
      obtain ⟨q, hq, e8, hV, _⟩ := H.m8 (hwi 8 (by kernel_rfl))
      have V := hV hmi
      have h6 := hwi 6 (by kernel_rfl)
      have q6 := H.m6 h6
      have h4 := hcl 5 4 (by kernel_rfl) (hcl 6 5 (by kernel_rfl) h6)
      cases ho
      have hr := run_storeVar_row (P := Tryz.prog) w1 q 27 27 (verV false false false) (verV true true false) V (by show _ = some 3; kernel_rfl) rfl (by simp only [List.all_toArray, List.all_cons, List.all_nil]; rfl)
      refine RelJ.upon_mono (F := fun u w' => u = undef ∧ VerAt q (verV true true false) w' ∧ Goes (fun k => k = q) w1 w') ?_ ?_
      · unfold execOp
        dsimp only
        rw [(RelJ.fill_at (k := 8) 9 (by kernel_rfl) (by show _ < 100; decide)).trans e8, (RelJ.fill_at (k := 6) 9 (by kernel_rfl) (by show _ < 100; decide)).trans q6]
        simp only [ptr, Instr.storeAt, Instr.sureAddr, Sem.run_bind, Sem.run_pure, Result.andThen_ok, hr]
        exact ⟨rfl, setRow_heap _ _ _ _ _ _ V, goes_setRow w1 (F := fun k => k = q) rfl _⟩
      · rintro u w2 ⟨rfl, V', G'⟩
        exact H.s9 h4 hq e8 V' G'
    | 10, ho =>
      have q := H.m7 (hwi 7 (by kernel_rfl))
      cases ho
      exact up_move _ (.inr rfl) ((RelJ.fill_at (k := 7) 10 (by kernel_rfl) (by show _ < 100; decide)).trans q) H.s10
    | i + 11, ho => cases ho
  · intro m x w1 hall H
    have e0 := H.m0 (hall 0 (by decide))
    have e1 := H.m1 (hall 1 (by decide))
    have e2 := H.m2 (hall 2 (by decide))
    obtain ⟨g, e3, _⟩ := H.m3 (hall 3 (by decide))
    have e4 := H.m4 (hall 4 (by decide))
    have e5 := H.m5 (hall 5 (by decide))
    have e6 := H.m6 (hall 6 (by decide))
    have e7 := H.m7 (hall 7 (by decide))
    obtain ⟨q4, hq4, e8, _, hV4⟩ := H.m8 (hall 8 (by decide))
    have V4 := hV4 (hall 9 (by decide))
    have e10 := H.m10 (hall 10 (by decide))
    have G := H.b
    clear H hall hq4 hV4
    simp only [Rel.fill, Rel.dstOf, if_true, List.getElem?_toArray, List.getElem?_cons_zero, List.getElem?_cons_succ, Option.bind_some, Act.put, List.length_cons, List.length_nil, Nat.reduceAdd, List.setIfInBounds_toArray, List.set_cons_succ, List.set_cons_zero, e0, e1, e2, e3, e4, e5, e6, e7, e8, e10]
    replace B := B.trans (G.mono B.size)
    replace T := T.grow G
    replace L := L.grow G
    replace V1 := V1.grow G
    replace V2 := V2.grow G
    replace V3 := V3.grow G
    clear G X1 X2 e0 e1 e2 e3 e4 e5 e6 e7 e8 e10
    go_upto_region 11 with (first | (go_at_call 16; with_reducible refine (rel_sb L T).mono ?_; rintro e w2 ⟨ao, cap, rfl, G⟩; dsimp only))
    replace B := B.trans (G.mono B.size)
    replace V1 := V1.grow G
    replace V2 := V2.grow G
    replace V3 := V3.grow G
    replace V4 := V4.grow G
    have d3 : w2.cell? ⟨q3, 0, none⟩ = some (.bool false) := V3.cell 0
    have d4 : w2.cell? ⟨q4, 2, none⟩ = some (.bool false) := V4.cell 2
    have hr1 : ∀ w, Sem.run Tryz.prog (binOp BinOp.eql 27 (.agg (verV true true true)) (.agg #[.bool true, .bool true, .bool true])) w = .ok (.bool true) w := fun _ => by kernel_rfl
    have hr2 : ∀ w, Sem.run Tryz.prog (binOp BinOp.eql 27 (.agg (verV true false true)) (.agg #[.bool true, .bool false, .bool true])) w = .ok (.bool true) w := fun _ => by kernel_rfl
    clear G T L V3 V4
    go_wp2_with (first | (refine wpList_load27 _ rfl rfl rfl V1 ?_; simp only [Act.put, List.setIfInBounds_toArray, List.set_cons_succ, List.set_cons_zero]) | (refine wpList_load27 _ rfl rfl rfl V2 ?_; simp only [Act.put, List.setIfInBounds_toArray, List.set_cons_succ, List.set_cons_zero]))
    go_ret
    exact ⟨rfl, B⟩
end Go.Proofs.YtnedkielehmneaaGreatDoor
