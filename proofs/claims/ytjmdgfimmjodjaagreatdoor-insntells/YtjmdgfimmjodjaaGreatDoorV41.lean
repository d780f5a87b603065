/- How an instruction is written, as the document's own answer writes it: Ops 17, 18, 7, 9, 15, 24. -/
import Derived.Test.YtjmdgfimmjodjaaGreatDoorV39
import Derived.Test.YtjmdgfimmjodjaaGreatDoorV19
import Derived.Test.YtjmdgfimmjodjaaGreatDoorV09
namespace Go.Proofs.YtjmdgfimmjodjaaGreatDoor
open Go.RowKit Go.Rel
set_option linter.unusedVariables false
set_option linter.unusedSimpArgs false
set_option maxRecDepth 8000

set_option maxHeartbeats 16000000 in
theorem tx_3 (i : Ins) (hR : rightB i = true) (hg : i.op = 17 ∨ i.op = 18 ∨ i.op = 7 ∨ i.op = 9 ∨ i.op = 15 ∨ i.op = 24) (w : World) : Calls Tryz.prog 10 #[i.val] w fun e w' => e = .returned (.tuple #[strV (textV i), .bool true]) ∧ Below w.heap.size w w' := by
  have ho : i.op = 6 ∨ i.op = 7 ∨ i.op = 8 ∨ i.op = 9 ∨ i.op = 10 ∨ i.op = 11 ∨ i.op = 12 ∨ i.op = 13 ∨ i.op = 14 ∨ i.op = 15 ∨ i.op = 16 ∨ i.op = 17 ∨ i.op = 18 ∨ i.op = 19 ∨ i.op = 20 ∨ i.op = 21 ∨ i.op = 22 ∨ i.op = 23 ∨ i.op = 24 ∨ i.op = 25 ∨ i.op = 27 ∨ i.op = 28 ∨ i.op = 29 ∨ i.op = 30 ∨ i.op = 31 ∨ i.op = 32 ∨ i.op = 34 ∨ i.op = 35 ∨ i.op = 36 ∨ i.op = 37 := by rcases hg with h | h | h | h | h | h <;> simp [h]
  have hT2 : Hid (accT (wordV i) (docP i) (docP i).length = textV i) := doc_text ho
  have hL0 : Hid (∀ k, ((docP i).getD k []).length ≤ 100) := getD_le (doc_len hR ho)
  clear ho
  have H1 := one_start i w
  have hr := inR_of hR
  have HN := num_of hR
  obtain ⟨s0, s3⟩ := shift_in hR
  obtain ⟨c0, c1⟩ := cond_in hR
  have ld : (rdT i).length ≤ 22 := reg_len _ hr.d0 hr.d1
  have ln : (rnT i).length ≤ 22 := reg_len _ hr.n0 hr.n1
  have lm : (regT i.rm false).length ≤ 22 := reg_len _ hr.m0 hr.m1
  have la : (regT i.ra false).length ≤ 22 := reg_len _ hr.a0 hr.a1
  have li : (Lib.itoa i.imm).length ≤ 21 := itoa_le HN.i0 HN.i1
  have lj : (Lib.itoa i.imm2).length ≤ 21 := itoa_le HN.j0 HN.j1
  have lk : (Lib.itoa i.amount).length ≤ 21 := itoa_le HN.k0 HN.k1
  have ly : (Lib.itoa i.sys).length ≤ 21 := itoa_le HN.y0 HN.y1
  have m0 := hr.m0
  have m1 := hr.m1
  have a0 := hr.a0
  have a1 := hr.a1
  have i0 := HN.i0
  have i1 := HN.i1
  have j0 := HN.j0
  have j1 := HN.j1
  have k0 := HN.k0
  have k1 := HN.k1
  have y0 := HN.y0
  have y1 := HN.y1
  have hwd := word_len hR
  go_enter Tryz.func10, Tryz.ntmps10
  go_upto_region 4 with (first | (refine wpList_load_if rfl 23 _ rfl w.heap.size rfl 23 _ (0, 0) _ H1.box Tryz.underlying23 rfl (by kernel_rfl) ?_; simp only [Act.put, List.setIfInBounds_toArray, List.set_cons_succ, List.set_cons_zero]) | (go_at_call 5; refine (rright_c i _).mono ?_; rw [hR]; rintro e w2 ⟨rfl, hb2⟩; replace H1 := H1.grow hb2; clear hb2; dsimp only))
  refine wp_region_rel Grows (fun x => One i w x) [.inl (.pointer (some ⟨w.heap.size, 2, none⟩)), .inl (vI i.rd), .inl i.val, .inl (.bool (spD i)), .inl (strV (rdT i)), .inl (strV (rdT i))] (by kernel_rfl) (by kernel_rfl) (One.up i w) (H1.grow (below_drawn1 _)) (by simp only [List.mem_cons, List.not_mem_nil, or_false]; rintro k hk; rcases hk with rfl | rfl | rfl | rfl | rfl | rfl <;> trivial) ?_
  refine ⟨fun w1 hC hF => ?_, ?_⟩
  · go_simp
    first | exact ⟨Below.refl _ _, rfl⟩ | exact Below.refl _ _
  simp only [Act.put, List.setIfInBounds_toArray, List.set_cons_succ, List.set_cons_zero]
  refine ⟨fun w1 hC hF => ?_, ?_⟩
  · have gg := hC.at 2 (vI i.rd) rfl
    go_simp
    first | exact ⟨Below.refl _ _, rfl⟩ | exact Below.refl _ _
  simp only [Act.put, List.setIfInBounds_toArray, List.set_cons_succ, List.set_cons_zero]
  refine ⟨fun w1 hC _ => rel_load_row 23 _ rfl w.heap.size rfl 23 i.cells (0, 0) _ hC.box Tryz.underlying23 rfl (by kernel_rfl), ?_⟩
  simp only [Act.put, List.setIfInBounds_toArray, List.set_cons_succ, List.set_cons_zero]
  refine ⟨fun w1 hC hF => ?_, ?_⟩
  · go_simp
    refine (rspD_c i w1).mono ?_
    rintro e w4 ⟨rfl, hb⟩
    first | exact ⟨rfl, hb⟩ | exact ⟨_, rfl, hb, rfl⟩
  simp only [Act.put, List.setIfInBounds_toArray, List.set_cons_succ, List.set_cons_zero]
  refine ⟨fun w1 hC hF => ?_, ?_⟩
  · go_simp
    refine (rname_c i.rd (spD i) hr.d0 hr.d1 w1).mono ?_
    rintro e w4 ⟨rfl, hb⟩
    first | exact ⟨rfl, hb⟩ | exact ⟨_, rfl, hb, rfl⟩
  simp only [Act.put, List.setIfInBounds_toArray, List.set_cons_succ, List.set_cons_zero]
  refine ⟨fun w1 hC hF => ?_, ?_⟩
  · go_simp
    first | exact ⟨Below.refl _ _, rfl⟩ | exact Below.refl _ _
  simp only [Act.put, List.setIfInBounds_toArray, List.set_cons_succ, List.set_cons_zero]
  clear H1
  intro w1 H1 hF
  clear hF
  refine then_normal ?_
  go_upto_region 5 with fail
  refine wp_region_rel Grows (fun x => One i w x) [.inl (.pointer (some ⟨w.heap.size, 3, none⟩)), .inl (vI i.rn), .inl i.val, .inl (.bool (spN i)), .inl (strV (rnT i)), .inl (strV (rnT i))] (by kernel_rfl) (by kernel_rfl) (One.up i w) (H1.grow (below_drawn1 _)) (by simp only [List.mem_cons, List.not_mem_nil, or_false]; rintro k hk; rcases hk with rfl | rfl | rfl | rfl | rfl | rfl <;> trivial) ?_
  refine ⟨fun w1 hC hF => ?_, ?_⟩
  · go_simp
    first | exact ⟨Below.refl _ _, rfl⟩ | exact Below.refl _ _
  simp only [Act.put, List.setIfInBounds_toArray, List.set_cons_succ, List.set_cons_zero]
  refine ⟨fun w1 hC hF => ?_, ?_⟩
  · have gg := hC.at 3 (vI i.rn) rfl
    go_simp
    first | exact ⟨Below.refl _ _, rfl⟩ | exact Below.refl _ _
  simp only [Act.put, List.setIfInBounds_toArray, List.set_cons_succ, List.set_cons_zero]
  refine ⟨fun w1 hC _ => rel_load_row 23 _ rfl w.heap.size rfl 23 i.cells (0, 0) _ hC.box Tryz.underlying23 rfl (by kernel_rfl), ?_⟩
  simp only [Act.put, List.setIfInBounds_toArray, List.set_cons_succ, List.set_cons_zero]
  refine ⟨fun w1 hC hF => ?_, ?_⟩
  · go_simp
    refine (rspN_c i w1).mono ?_
    rintro e w4 ⟨rfl, hb⟩
    first | exact ⟨rfl, hb⟩ | exact ⟨_, rfl, hb, rfl⟩
  simp only [Act.put, List.setIfInBounds_toArray, List.set_cons_succ, List.set_cons_zero]
  refine ⟨fun w1 hC hF => ?_, ?_⟩
  · go_simp
    refine (rname_c i.rn (spN i) hr.n0 hr.n1 w1).mono ?_
    rintro e w4 ⟨rfl, hb⟩
    first | exact ⟨rfl, hb⟩ | exact ⟨_, rfl, hb, rfl⟩
  simp only [Act.put, List.setIfInBounds_toArray, List.set_cons_succ, List.set_cons_zero]
  refine ⟨fun w1 hC hF => ?_, ?_⟩
  · go_simp
    first | exact ⟨Below.refl _ _, rfl⟩ | exact Below.refl _ _
  simp only [Act.put, List.setIfInBounds_toArray, List.set_cons_succ, List.set_cons_zero]
  clear H1
  intro w1 H1 hF
  clear hF
  refine then_normal ?_
  go_upto_region 11 with (first | ((with_reducible refine wpList_load_cell rfl 3 _ rfl _ _ rfl _ (H1.at _ _ rfl) (agg3 _) ?_); simp only [Act.put, List.setIfInBounds_toArray, List.set_cons_succ, List.set_cons_zero]) | (go_at_call 29; refine (rname_c _ _ (by omega) (by omega) _).mono ?_; rintro e w2 ⟨rfl, hb2⟩; replace H1 := H1.grow hb2; clear hb2; dsimp only) | (go_at_call 32; refine (digits_c _ (by omega) (by omega) _).mono ?_; rintro e w2 ⟨rfl, hb2⟩; replace H1 := H1.grow hb2; clear hb2; dsimp only) | ((with_reducible refine wpList_cat rfl _ _ rfl _ _ rfl rfl ?_ ?_); (focus (simp only [List.length_append, List.length_cons, List.length_nil]; omega)); simp only [Act.put, List.setIfInBounds_toArray, List.set_cons_succ, List.set_cons_zero]) | ((with_reducible refine wpList_cut rfl _ _ rfl i.shift s0 s3 rfl rfl ?_); simp only [Act.put, List.setIfInBounds_toArray, List.set_cons_succ, List.set_cons_zero]))
  have hD : ∃ D, rdT i = D := ⟨_, rfl⟩
  have hN : ∃ N, rnT i = N := ⟨_, rfl⟩
  have hM : ∃ M, regT i.rm false = M := ⟨_, rfl⟩
  have hI : ∃ IM, [35] ++ Lib.itoa i.imm = IM := ⟨_, rfl⟩
  have hA : ∃ AM, [35] ++ Lib.itoa i.amount = AM := ⟨_, rfl⟩
  obtain ⟨D, hD⟩ := hD
  obtain ⟨N, hN⟩ := hN
  obtain ⟨M, hM⟩ := hM
  obtain ⟨IM, hI⟩ := hI
  obtain ⟨AM, hA⟩ := hA
  have l1 : IM.length ≤ 22 := by rw [← hI]; simp only [List.length_append, List.length_cons, List.length_nil]; omega
  have l2 : AM.length ≤ 22 := by rw [← hA]; simp only [List.length_append, List.length_cons, List.length_nil]; omega
  rw [hD] at ld ⊢
  rw [hN] at ln ⊢
  rw [hM] at lm ⊢
  rw [hI, hA]
  replace hD := show Hid _ from hD
  replace hN := show Hid _ from hN
  replace hM := show Hid _ from hM
  replace hI := show Hid _ from hI
  replace hA := show Hid _ from hA
  clear li lk
  rcases hg with h | h | h | h | h | h
  all_goals
    have z0 := H1.at 0 (vI i.op) rfl
    rw [h] at z0
    go_upto_region 12 with fail
    clear z0
    go_upto_region 73 with (first | ((with_reducible refine wpList_load_cell rfl 3 _ rfl _ _ rfl _ (H1.at _ _ rfl) (agg3 _) ?_); simp only [Act.put, List.setIfInBounds_toArray, List.set_cons_succ, List.set_cons_zero]) | (go_at_call 29; refine (rname_c _ _ (by omega) (by omega) _).mono ?_; rintro e w2 ⟨rfl, hb2⟩; replace H1 := H1.grow hb2; clear hb2; dsimp only) | (go_at_call 32; refine (digits_c _ (by omega) (by omega) _).mono ?_; rintro e w2 ⟨rfl, hb2⟩; replace H1 := H1.grow hb2; clear hb2; dsimp only) | (go_at_call 34; refine (rcond_c _ (by omega) (by omega) _).mono ?_; rintro e w2 ⟨rfl, rfl⟩; dsimp only) | ((with_reducible refine wpList_cat rfl _ _ rfl _ _ rfl rfl ?_ ?_); (focus (simp only [List.length_append, List.length_cons, List.length_nil]; omega)); simp only [Act.put, List.setIfInBounds_toArray, List.set_cons_succ, List.set_cons_zero]))
    have hn : (docP i).length = 3 := by unfold docP; rw [h]; rfl
    generalize hwa : World.alloc _ _ = wa
    have R : RowT w.heap.size (docP i) (.slice (some ⟨w2.heap.size, 0, none⟩) 3 3) wa := by
      rw [← hwa]
      have e1 := hD.out
      have e2 := hN.out
      have e3 := hM.out
      have e4 := hI.out
      have e5 := hA.out
      subst e1; subst e2; subst e3; subst e4; subst e5
      have hr := row_new w2 (docP i) (by omega) w.heap.size H1.below.size
      rw [hn] at hr
      refine (congrArg (fun c => RowT w.heap.size (docP i) (.slice (some ⟨w2.heap.size, 0, none⟩) 3 3) (w2.alloc (.cells c 9))) ?_).mp hr
      unfold docP
      rw [h]
      rfl
    replace H1 : One i w wa := by rw [← hwa]; exact H1.grow (below_alloc _ _)
    clear hwa
    obtain ⟨g, hg⟩ : ∃ g, w2.heap.size = g := ⟨_, rfl⟩
    rw [hg] at R ⊢
    clear hg
    have hLl := hL0.out
    clear hL0
    generalize docP i = L at R hT2 hLl hn
    replace h := show Hid _ from h
    go_upto_region 74 with (first | (refine wpList_load_if rfl 23 _ rfl w.heap.size rfl 23 _ (0, 0) _ H1.box Tryz.underlying23 rfl (by kernel_rfl) ?_; simp only [Act.put, List.setIfInBounds_toArray, List.set_cons_succ, List.set_cons_zero]) | (go_at_call 35; refine (rword_c i hR _).mono ?_; rintro e w3 ⟨rfl, hb2⟩; replace H1 := H1.grow hb2; replace R := own_up R hb2; clear hb2; dsimp only))
    have RB : Hid (RowT w.heap.size L (.slice (some ⟨g, 0, none⟩) 3 3) w3 ∧ Below w.heap.size w w3) := ⟨R, H1.below⟩
    clear R H1
    go_wp2
    go_loopw [14, 15] (fun s14 s15 wr => ∃ k : Nat, k ≤ L.length ∧ s15 = .int .i64 k ∧ s14 = strV (accT (wordV i) L k) ∧ Hid (RowT w.heap.size L (.slice (some ⟨g, 0, none⟩) 3 3) wr ∧ Below w.heap.size w wr)) (fun s14 s15 _ => L.length - (intOf s15).toNat)
    case atStart => exact ⟨0, Nat.zero_le _, rfl, rfl, RB⟩
    case round =>
      clear RB
      obtain ⟨k, hk, rfl, rfl, RB⟩ := hrel
      by_cases hin : k < L.length
      · have z := rowT_cell RB.out.1 hin
        have t1 := accT_le hwd hLl k
        have t2 := hLl k
        have t3 : 102 * k ≤ 510 := by omega
        have eA : Hid (accT (wordV i) L (k + 1) = ((if k = 0 then accT (wordV i) L k else accT (wordV i) L k ++ [44]) ++ [32]) ++ L.getD k []) := show _ = _ from rfl
        generalize accT (wordV i) L k = S at t1 eA ⊢
        generalize L.getD k [] = P at t2 z eA
        by_cases k0 : k = 0
        · subst k0
          go_wp2_with (first | ((with_reducible refine wpList_cat rfl _ _ rfl _ _ rfl rfl ?_ ?_); (focus (simp only [List.length_append, List.length_cons, List.length_nil]; omega)); simp only [Act.put, List.setIfInBounds_toArray, List.set_cons_succ, List.set_cons_zero]))
          go_roundw
          case rel => exact ⟨0 + 1, by omega, by go_num, by rw [eA.out, if_pos rfl], RB⟩
          case measure => simp [intOf]; omega
        · have kp : (0 : Int) < k := by omega
          go_wp2_with (first | ((with_reducible refine wpList_cat rfl _ _ rfl _ _ rfl rfl ?_ ?_); (focus (simp only [List.length_append, List.length_cons, List.length_nil]; omega)); simp only [Act.put, List.setIfInBounds_toArray, List.set_cons_succ, List.set_cons_zero]))
          go_roundw
          case rel => exact ⟨k + 1, by omega, by go_num, by rw [eA.out, if_neg k0], RB⟩
          case measure => simp [intOf]; omega
      · obtain rfl : k = L.length := by omega
        go_wp2
        go_ret2
        exact ⟨by rw [← hT2.out]; rfl, RB.out.2⟩
end Go.Proofs.YtjmdgfimmjodjaaGreatDoor
/- How an instruction is written, as the document's own answer writes it: Ops 8, 10, 6, 19, 20. -/
namespace Go.Proofs.YtjmdgfimmjodjaaGreatDoor
open Go.RowKit Go.Rel
set_option linter.unusedVariables false
set_option linter.unusedSimpArgs false
set_option maxRecDepth 8000

set_option maxHeartbeats 16000000 in
theorem tx_4 (i : Ins) (hR : rightB i = true) (hg : i.op = 8 ∨ i.op = 10 ∨ i.op = 6 ∨ i.op = 19 ∨ i.op = 20) (w : World) : Calls Tryz.prog 10 #[i.val] w fun e w' => e = .returned (.tuple #[strV (textV i), .bool true]) ∧ Below w.heap.size w w' := by
  have ho : i.op = 6 ∨ i.op = 7 ∨ i.op = 8 ∨ i.op = 9 ∨ i.op = 10 ∨ i.op = 11 ∨ i.op = 12 ∨ i.op = 13 ∨ i.op = 14 ∨ i.op = 15 ∨ i.op = 16 ∨ i.op = 17 ∨ i.op = 18 ∨ i.op = 19 ∨ i.op = 20 ∨ i.op = 21 ∨ i.op = 22 ∨ i.op = 23 ∨ i.op = 24 ∨ i.op = 25 ∨ i.op = 27 ∨ i.op = 28 ∨ i.op = 29 ∨ i.op = 30 ∨ i.op = 31 ∨ i.op = 32 ∨ i.op = 34 ∨ i.op = 35 ∨ i.op = 36 ∨ i.op = 37 := by rcases hg with h | h | h | h | h <;> simp [h]
  have hT2 : Hid (accT (wordV i) (docP i) (docP i).length = textV i) := doc_text ho
  have hL0 : Hid (∀ k, ((docP i).getD k []).length ≤ 100) := getD_le (doc_len hR ho)
  clear ho
  have H1 := one_start i w
  have hr := inR_of hR
  have HN := num_of hR
  obtain ⟨s0, s3⟩ := shift_in hR
  obtain ⟨c0, c1⟩ := cond_in hR
  have ld : (rdT i).length ≤ 22 := reg_len _ hr.d0 hr.d1
  have ln : (rnT i).length ≤ 22 := reg_len _ hr.n0 hr.n1
  have lm : (regT i.rm false).length ≤ 22 := reg_len _ hr.m0 hr.m1
  have la : (regT i.ra false).length ≤ 22 := reg_len _ hr.a0 hr.a1
  have li : (Lib.itoa i.imm).length ≤ 21 := itoa_le HN.i0 HN.i1
  have lj : (Lib.itoa i.imm2).length ≤ 21 := itoa_le HN.j0 HN.j1
  have lk : (Lib.itoa i.amount).length ≤ 21 := itoa_le HN.k0 HN.k1
  have ly : (Lib.itoa i.sys).length ≤ 21 := itoa_le HN.y0 HN.y1
  have m0 := hr.m0
  have m1 := hr.m1
  have a0 := hr.a0
  have a1 := hr.a1
  have i0 := HN.i0
  have i1 := HN.i1
  have j0 := HN.j0
  have j1 := HN.j1
  have k0 := HN.k0
  have k1 := HN.k1
  have y0 := HN.y0
  have y1 := HN.y1
  have hwd := word_len hR
  go_enter Tryz.func10, Tryz.ntmps10
  go_upto_region 4 with (first | (refine wpList_load_if rfl 23 _ rfl w.heap.size rfl 23 _ (0, 0) _ H1.box Tryz.underlying23 rfl (by kernel_rfl) ?_; simp only [Act.put, List.setIfInBounds_toArray, List.set_cons_succ, List.set_cons_zero]) | (go_at_call 5; refine (rright_c i _).mono ?_; rw [hR]; rintro e w2 ⟨rfl, hb2⟩; replace H1 := H1.grow hb2; clear hb2; dsimp only))
  refine wp_region_rel Grows (fun x => One i w x) [.inl (.pointer (some ⟨w.heap.size, 2, none⟩)), .inl (vI i.rd), .inl i.val, .inl (.bool (spD i)), .inl (strV (rdT i)), .inl (strV (rdT i))] (by kernel_rfl) (by kernel_rfl) (One.up i w) (H1.grow (below_drawn1 _)) (by simp only [List.mem_cons, List.not_mem_nil, or_false]; rintro k hk; rcases hk with rfl | rfl | rfl | rfl | rfl | rfl <;> trivial) ?_
  refine ⟨fun w1 hC hF => ?_, ?_⟩
  · go_simp
    first | exact ⟨Below.refl _ _, rfl⟩ | exact Below.refl _ _
  simp only [Act.put, List.setIfInBounds_toArray, List.set_cons_succ, List.set_cons_zero]
  refine ⟨fun w1 hC hF => ?_, ?_⟩
  · have gg := hC.at 2 (vI i.rd) rfl
    go_simp
    first | exact ⟨Below.refl _ _, rfl⟩ | exact Below.refl _ _
  simp only [Act.put, List.setIfInBounds_toArray, List.set_cons_succ, List.set_cons_zero]
  refine ⟨fun w1 hC _ => rel_load_row 23 _ rfl w.heap.size rfl 23 i.cells (0, 0) _ hC.box Tryz.underlying23 rfl (by kernel_rfl), ?_⟩
  simp only [Act.put, List.setIfInBounds_toArray, List.set_cons_succ, List.set_cons_zero]
  refine ⟨fun w1 hC hF => ?_, ?_⟩
  · go_simp
    refine (rspD_c i w1).mono ?_
    rintro e w4 ⟨rfl, hb⟩
    first | exact ⟨rfl, hb⟩ | exact ⟨_, rfl, hb, rfl⟩
  simp only [Act.put, List.setIfInBounds_toArray, List.set_cons_succ, List.set_cons_zero]
  refine ⟨fun w1 hC hF => ?_, ?_⟩
  · go_simp
    refine (rname_c i.rd (spD i) hr.d0 hr.d1 w1).mono ?_
    rintro e w4 ⟨rfl, hb⟩
    first | exact ⟨rfl, hb⟩ | exact ⟨_, rfl, hb, rfl⟩
  simp only [Act.put, List.setIfInBounds_toArray, List.set_cons_succ, List.set_cons_zero]
  refine ⟨fun w1 hC hF => ?_, ?_⟩
  · go_simp
    first | exact ⟨Below.refl _ _, rfl⟩ | exact Below.refl _ _
  simp only [Act.put, List.setIfInBounds_toArray, List.set_cons_succ, List.set_cons_zero]
  clear H1
  intro w1 H1 hF
  clear hF
  refine then_normal ?_
  go_upto_region 5 with fail
  refine wp_region_rel Grows (fun x => One i w x) [.inl (.pointer (some ⟨w.heap.size, 3, none⟩)), .inl (vI i.rn), .inl i.val, .inl (.bool (spN i)), .inl (strV (rnT i)), .inl (strV (rnT i))] (by kernel_rfl) (by kernel_rfl) (One.up i w) (H1.grow (below_drawn1 _)) (by simp only [List.mem_cons, List.not_mem_nil, or_false]; rintro k hk; rcases hk with rfl | rfl | rfl | rfl | rfl | rfl <;> trivial) ?_
  refine ⟨fun w1 hC hF => ?_, ?_⟩
  · go_simp
    first | exact ⟨Below.refl _ _, rfl⟩ | exact Below.refl _ _
  simp only [Act.put, List.setIfInBounds_toArray, List.set_cons_succ, List.set_cons_zero]
  refine ⟨fun w1 hC hF => ?_, ?_⟩
  · have gg := hC.at 3 (vI i.rn) rfl
    go_simp
    first | exact ⟨Below.refl _ _, rfl⟩ | exact Below.refl _ _
  simp only [Act.put, List.setIfInBounds_toArray, List.set_cons_succ, List.set_cons_zero]
  refine ⟨fun w1 hC _ => rel_load_row 23 _ rfl w.heap.size rfl 23 i.cells (0, 0) _ hC.box Tryz.underlying23 rfl (by kernel_rfl), ?_⟩
  simp only [Act.put, List.setIfInBounds_toArray, List.set_cons_succ, List.set_cons_zero]
  refine ⟨fun w1 hC hF => ?_, ?_⟩
  · go_simp
    refine (rspN_c i w1).mono ?_
    rintro e w4 ⟨rfl, hb⟩
    first | exact ⟨rfl, hb⟩ | exact ⟨_, rfl, hb, rfl⟩
  simp only [Act.put, List.setIfInBounds_toArray, List.set_cons_succ, List.set_cons_zero]
  refine ⟨fun w1 hC hF => ?_, ?_⟩
  · go_simp
    refine (rname_c i.rn (spN i) hr.n0 hr.n1 w1).mono ?_
    rintro e w4 ⟨rfl, hb⟩
    first | exact ⟨rfl, hb⟩ | exact ⟨_, rfl, hb, rfl⟩
  simp only [Act.put, List.setIfInBounds_toArray, List.set_cons_succ, List.set_cons_zero]
  refine ⟨fun w1 hC hF => ?_, ?_⟩
  · go_simp
    first | exact ⟨Below.refl _ _, rfl⟩ | exact Below.refl _ _
  simp only [Act.put, List.setIfInBounds_toArray, List.set_cons_succ, List.set_cons_zero]
  clear H1
  intro w1 H1 hF
  clear hF
  refine then_normal ?_
  go_upto_region 11 with (first | ((with_reducible refine wpList_load_cell rfl 3 _ rfl _ _ rfl _ (H1.at _ _ rfl) (agg3 _) ?_); simp only [Act.put, List.setIfInBounds_toArray, List.set_cons_succ, List.set_cons_zero]) | (go_at_call 29; refine (rname_c _ _ (by omega) (by omega) _).mono ?_; rintro e w2 ⟨rfl, hb2⟩; replace H1 := H1.grow hb2; clear hb2; dsimp only) | (go_at_call 32; refine (digits_c _ (by omega) (by omega) _).mono ?_; rintro e w2 ⟨rfl, hb2⟩; replace H1 := H1.grow hb2; clear hb2; dsimp only) | ((with_reducible refine wpList_cat rfl _ _ rfl _ _ rfl rfl ?_ ?_); (focus (simp only [List.length_append, List.length_cons, List.length_nil]; omega)); simp only [Act.put, List.setIfInBounds_toArray, List.set_cons_succ, List.set_cons_zero]) | ((with_reducible refine wpList_cut rfl _ _ rfl i.shift s0 s3 rfl rfl ?_); simp only [Act.put, List.setIfInBounds_toArray, List.set_cons_succ, List.set_cons_zero]))
  have hD : ∃ D, rdT i = D := ⟨_, rfl⟩
  have hN : ∃ N, rnT i = N := ⟨_, rfl⟩
  have hM : ∃ M, regT i.rm false = M := ⟨_, rfl⟩
  have hI : ∃ IM, [35] ++ Lib.itoa i.imm = IM := ⟨_, rfl⟩
  have hA : ∃ AM, [35] ++ Lib.itoa i.amount = AM := ⟨_, rfl⟩
  obtain ⟨D, hD⟩ := hD
  obtain ⟨N, hN⟩ := hN
  obtain ⟨M, hM⟩ := hM
  obtain ⟨IM, hI⟩ := hI
  obtain ⟨AM, hA⟩ := hA
  have l1 : IM.length ≤ 22 := by rw [← hI]; simp only [List.length_append, List.length_cons, List.length_nil]; omega
  have l2 : AM.length ≤ 22 := by rw [← hA]; simp only [List.length_append, List.length_cons, List.length_nil]; omega
  rw [hD] at ld ⊢
  rw [hN] at ln ⊢
  rw [hM] at lm ⊢
  rw [hI, hA]
  replace hD := show Hid _ from hD
  replace hN := show Hid _ from hN
  replace hM := show Hid _ from hM
  replace hI := show Hid _ from hI
  replace hA := show Hid _ from hA
  clear li lk
  rcases hg with h | h | h | h | h
  all_goals
    have z0 := H1.at 0 (vI i.op) rfl
    rw [h] at z0
    go_upto_region 12 with fail
    clear z0
    go_upto_region 73 with (first | ((with_reducible refine wpList_load_cell rfl 3 _ rfl _ _ rfl _ (H1.at _ _ rfl) (agg3 _) ?_); simp only [Act.put, List.setIfInBounds_toArray, List.set_cons_succ, List.set_cons_zero]) | (go_at_call 29; refine (rname_c _ _ (by omega) (by omega) _).mono ?_; rintro e w2 ⟨rfl, hb2⟩; replace H1 := H1.grow hb2; clear hb2; dsimp only) | (go_at_call 32; refine (digits_c _ (by omega) (by omega) _).mono ?_; rintro e w2 ⟨rfl, hb2⟩; replace H1 := H1.grow hb2; clear hb2; dsimp only) | (go_at_call 34; refine (rcond_c _ (by omega) (by omega) _).mono ?_; rintro e w2 ⟨rfl, rfl⟩; dsimp only) | ((with_reducible refine wpList_cat rfl _ _ rfl _ _ rfl rfl ?_ ?_); (focus (simp only [List.length_append, List.length_cons, List.length_nil]; omega)); simp only [Act.put, List.setIfInBounds_toArray, List.set_cons_succ, List.set_cons_zero]))
    have hn : (docP i).length = 4 := by unfold docP; rw [h]; rfl
    generalize hwa : World.alloc _ _ = wa
    have R : RowT w.heap.size (docP i) (.slice (some ⟨w2.heap.size, 0, none⟩) 4 4) wa := by
      rw [← hwa]
      have e1 := hD.out
      have e2 := hN.out
      have e3 := hM.out
      have e4 := hI.out
      have e5 := hA.out
      subst e1; subst e2; subst e3; subst e4; subst e5
      have hr := row_new w2 (docP i) (by omega) w.heap.size H1.below.size
      rw [hn] at hr
      refine (congrArg (fun c => RowT w.heap.size (docP i) (.slice (some ⟨w2.heap.size, 0, none⟩) 4 4) (w2.alloc (.cells c 9))) ?_).mp hr
      unfold docP
      rw [h]
      rfl
    replace H1 : One i w wa := by rw [← hwa]; exact H1.grow (below_alloc _ _)
    clear hwa
    obtain ⟨g, hg⟩ : ∃ g, w2.heap.size = g := ⟨_, rfl⟩
    rw [hg] at R ⊢
    clear hg
    have hLl := hL0.out
    clear hL0
    generalize docP i = L at R hT2 hLl hn
    replace h := show Hid _ from h
    go_upto_region 74 with (first | (refine wpList_load_if rfl 23 _ rfl w.heap.size rfl 23 _ (0, 0) _ H1.box Tryz.underlying23 rfl (by kernel_rfl) ?_; simp only [Act.put, List.setIfInBounds_toArray, List.set_cons_succ, List.set_cons_zero]) | (go_at_call 35; refine (rword_c i hR _).mono ?_; rintro e w3 ⟨rfl, hb2⟩; replace H1 := H1.grow hb2; replace R := own_up R hb2; clear hb2; dsimp only))
    have RB : Hid (RowT w.heap.size L (.slice (some ⟨g, 0, none⟩) 4 4) w3 ∧ Below w.heap.size w w3) := ⟨R, H1.below⟩
    clear R H1
    go_wp2
    go_loopw [14, 15] (fun s14 s15 wr => ∃ k : Nat, k ≤ L.length ∧ s15 = .int .i64 k ∧ s14 = strV (accT (wordV i) L k) ∧ Hid (RowT w.heap.size L (.slice (some ⟨g, 0, none⟩) 4 4) wr ∧ Below w.heap.size w wr)) (fun s14 s15 _ => L.length - (intOf s15).toNat)
    case atStart => exact ⟨0, Nat.zero_le _, rfl, rfl, RB⟩
    case round =>
      clear RB
      obtain ⟨k, hk, rfl, rfl, RB⟩ := hrel
      by_cases hin : k < L.length
      · have z := rowT_cell RB.out.1 hin
        have t1 := accT_le hwd hLl k
        have t2 := hLl k
        have t3 : 102 * k ≤ 510 := by omega
        have eA : Hid (accT (wordV i) L (k + 1) = ((if k = 0 then accT (wordV i) L k else accT (wordV i) L k ++ [44]) ++ [32]) ++ L.getD k []) := show _ = _ from rfl
        generalize accT (wordV i) L k = S at t1 eA ⊢
        generalize L.getD k [] = P at t2 z eA
        by_cases k0 : k = 0
        · subst k0
          go_wp2_with (first | ((with_reducible refine wpList_cat rfl _ _ rfl _ _ rfl rfl ?_ ?_); (focus (simp only [List.length_append, List.length_cons, List.length_nil]; omega)); simp only [Act.put, List.setIfInBounds_toArray, List.set_cons_succ, List.set_cons_zero]))
          go_roundw
          case rel => exact ⟨0 + 1, by omega, by go_num, by rw [eA.out, if_pos rfl], RB⟩
          case measure => simp [intOf]; omega
        · have kp : (0 : Int) < k := by omega
          go_wp2_with (first | ((with_reducible refine wpList_cat rfl _ _ rfl _ _ rfl rfl ?_ ?_); (focus (simp only [List.length_append, List.length_cons, List.length_nil]; omega)); simp only [Act.put, List.setIfInBounds_toArray, List.set_cons_succ, List.set_cons_zero]))
          go_roundw
          case rel => exact ⟨k + 1, by omega, by go_num, by rw [eA.out, if_neg k0], RB⟩
          case measure => simp [intOf]; omega
      · obtain rfl : k = L.length := by omega
        go_wp2
        go_ret2
        exact ⟨by rw [← hT2.out]; rfl, RB.out.2⟩
end Go.Proofs.YtjmdgfimmjodjaaGreatDoor
/- How an instruction is written: what is plain of the Ops 1, 2, 3, 4, 5, 26, 33. -/
namespace Go.Proofs.YtjmdgfimmjodjaaGreatDoor
open Go.RowKit Go.Rel
set_option linter.unusedVariables false
set_option linter.unusedSimpArgs false

theorem amt_of {i : Ins} (h : rightB i = true) : holdsB (amountS i.op) i.amount = true ∧ holdsB (subS i.op) i.sub = true ∧ holdsB (immS i.op i.sub) i.imm = true := by
  simp only [rightB, numbersB, signsB, Bool.and_eq_true, decide_eq_true_eq] at h
  obtain ⟨⟨o0, o1⟩, ⟨⟨⟨⟨⟨⟨⟨⟨⟨⟨⟨⟨hd, hn⟩, hm⟩, ha⟩, hs⟩, hi⟩, hj⟩, hk⟩, ht⟩, hc⟩, ⟨⟨⟨f, m⟩, n⟩, l⟩⟩, y⟩, -⟩⟩ := h
  exact ⟨hk, hs, hi⟩
theorem amt1 {i : Ins} (h : rightB i = true) (ho : i.op = 1) : i.amount = 0 ∨ i.amount = 12 := by
  have hk := (amt_of h).1
  rw [ho] at hk
  have e : amountS 1 = ⟨0, 12, 12⟩ := rfl
  rw [e] at hk
  simp only [holdsB, Bool.and_eq_true, Bool.or_eq_true, decide_eq_true_eq, beq_iff_eq] at hk
  obtain ⟨⟨h0, h1⟩, h2⟩ := hk
  rcases h2 with h2 | h2
  · exact .inl h2
  · rw [Int.tmod_eq_emod_of_nonneg h0] at h2
    omega
theorem sub33 {i : Ins} (h : rightB i = true) (ho : i.op = 33) : i.sub = 0 ∨ i.sub = 1 := by
  have hk := (amt_of h).2.1
  rw [ho] at hk
  have e := holds_in hk
  have e1 : (subS 33).lo = 0 := rfl
  have e2 : (subS 33).hi = 1 := rfl
  omega
theorem imm26 {i : Ins} (h : rightB i = true) (ho : i.op = 26) : i.imm = 1 ∨ i.imm = 2 ∨ i.imm = 3 := by
  have hk := (amt_of h).2.2
  rw [ho] at hk
  have e := holds_in hk
  have e1 : (immS 26 i.sub).lo = 1 := rfl
  have e2 : (immS 26 i.sub).hi = 3 := rfl
  omega
theorem sft12 : sftT 0 12 = [108, 115, 108, 32, 35, 49, 50] := by decide +kernel
theorem t1a {i : Ins} (h : i.op = 1) (ha : i.amount = 0) : accT (wordV i) [rdT i, rnT i, [35] ++ Lib.itoa i.imm] 3 = textV i := by
  rw [show textV i = textOf (wordV i) (partsV i) from rfl, show partsV i = [rdT i, rnT i, numT i.imm] from by unfold partsV rdT rnT spD spN; rw [h, ha]; rfl]
  exact (txt3 _ _ _ _).symm
theorem t1b {i : Ins} (h : i.op = 1) (ha : i.amount = 12) : accT (wordV i) [rdT i, rnT i, [35] ++ Lib.itoa i.imm, [108, 115, 108, 32, 35, 49, 50]] 4 = textV i := by
  rw [show textV i = textOf (wordV i) (partsV i) from rfl, show partsV i = [rdT i, rnT i, numT i.imm, sftT 0 12] from by unfold partsV rdT rnT spD spN; rw [h, ha]; rfl, sft12]
  exact (txt4 _ _ _ _ _).symm
theorem t2a {i : Ins} (h : i.op = 2 ∨ i.op = 3) (ha : i.amount = 0) (hs : i.shift = 0) : accT (wordV i) [rdT i, rnT i, regT i.rm false] 3 = textV i := by
  rcases h with h | h <;> rw [show textV i = textOf (wordV i) (partsV i) from rfl, show partsV i = [rdT i, rnT i, rmT i] from by unfold partsV rdT rnT rmT spD spN; rw [h, ha, hs]; rfl] <;> exact (txt3 _ _ _ _).symm
theorem t2b {i : Ins} (h : i.op = 2 ∨ i.op = 3) (ha : ¬ (i.shift = 0 ∧ i.amount = 0)) : accT (wordV i) [rdT i, rnT i, regT i.rm false, shiftT i.shift ++ 32 :: ([35] ++ Lib.itoa i.amount)] 4 = textV i := by
  have e : shiftedT i.shift i.amount = [sftT i.shift i.amount] := by
    unfold shiftedT
    rw [show (i.shift == 0 && i.amount == 0) = false from by rw [Bool.eq_false_iff]; intro hh; simp only [Bool.and_eq_true, beq_iff_eq] at hh; exact ha hh]
    rfl
  rcases h with h | h <;> rw [show textV i = textOf (wordV i) (partsV i) from rfl, show partsV i = [rdT i, rnT i, rmT i] ++ shiftedT i.shift i.amount from by unfold partsV rdT rnT rmT spD spN; rw [h]; rfl, e] <;> simp [textOf, accT, Lib.join, sftT, numT, rmT]
theorem t5a {i : Ins} (h : i.op = 5) (ha : i.amount = 0) : accT (wordV i) [rdT i, [35] ++ Lib.itoa i.imm] 2 = textV i := by
  rw [show textV i = textOf (wordV i) (partsV i) from rfl, show partsV i = [rdT i, numT i.imm] from by unfold partsV rdT spD; rw [h, ha]; rfl]
  exact (txt2 _ _ _).symm
theorem t5b {i : Ins} (h : i.op = 5) (ha : ¬ i.amount = 0) : accT (wordV i) [rdT i, [35] ++ Lib.itoa i.imm, [108, 115, 108, 32] ++ ([35] ++ Lib.itoa i.amount)] 3 = textV i := by
  have e : shiftedT 0 i.amount = [sftT 0 i.amount] := by
    unfold shiftedT
    rw [show ((0 : Int) == 0 && i.amount == 0) = false from by rw [Bool.eq_false_iff]; intro hh; simp only [Bool.and_eq_true, beq_iff_eq] at hh; exact ha hh.2]
    rfl
  rw [show textV i = textOf (wordV i) (partsV i) from rfl, show partsV i = [rdT i, numT i.imm] ++ shiftedT 0 i.amount from by unfold partsV rdT spD; rw [h]; rfl, e]
  simp [textOf, accT, Lib.join, sftT, numT, shiftT]
theorem t4 {i : Ins} (h : i.op = 4) : accT (wordV i) [rdT i, rnT i, [35] ++ Lib.decDigits (maskV i.amount i.imm i.imm2).toNat] 3 = textV i := by
  rw [show textV i = textOf (wordV i) (partsV i) from rfl, show partsV i = [rdT i, rnT i, maskT i] from by unfold partsV rdT rnT spD spN; rw [h]; rfl]
  exact (txt3 _ _ _ _).symm
theorem t26 {i : Ins} (h : i.op = 26) : accT (wordV i) [barT (i.imm - 1)] 1 = textV i := by
  rw [show textV i = textOf (wordV i) (partsV i) from rfl, show partsV i = [barT (i.imm - 1)] from by unfold partsV; rw [h]; rfl]
  exact (txt1 _ _).symm
theorem t33 {i : Ins} (h : i.op = 33) : accT (wordV i) [daifT i.sub, [35] ++ Lib.itoa i.imm] 2 = textV i := by
  rw [show textV i = textOf (wordV i) (partsV i) from rfl, show partsV i = [daifT i.sub, numT i.imm] from by unfold partsV; rw [h]; rfl]
  exact (txt2 _ _ _).symm
theorem row_form {base : Nat} {L : List Tx} {v : Value} {w : World} (R : RowT base L v w) (h : 0 < L.length) : ∃ g cap, v = .slice (some ⟨g, 0, none⟩) L.length cap := by
  rcases R.2 with ⟨_, e⟩ | ⟨g, cap, cur, e, _⟩
  · omega
  · exact ⟨g, cap, e⟩
theorem shift_len {s : Int} (h0 : 0 ≤ s) (h3 : s ≤ 3) : (shiftT s).length ≤ 3 := by
  rcases (by omega : s = 0 ∨ s = 1 ∨ s = 2 ∨ s = 3) with rfl | rfl | rfl | rfl <;> decide
theorem le4 {a b c d : Tx} (ha : a.length ≤ 100) (hb : b.length ≤ 100) (hc : c.length ≤ 100) (hd : d.length ≤ 100) : ∀ z ∈ [a, b, c, d], z.length ≤ 100 := fun z hz => by
  simp at hz
  rcases hz with rfl | rfl | rfl | rfl <;> assumption
end Go.Proofs.YtjmdgfimmjodjaaGreatDoor
