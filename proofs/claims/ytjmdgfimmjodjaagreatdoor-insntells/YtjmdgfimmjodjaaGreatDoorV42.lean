/- How an instruction is written, as the document's own answer writes it: Ops 1. -/
import Derived.Test.YtjmdgfimmjodjaaGreatDoorV41
namespace Go.Proofs.YtjmdgfimmjodjaaGreatDoor
open Go.RowKit Go.Rel
set_option linter.unusedVariables false
set_option linter.unusedSimpArgs false
set_option maxRecDepth 8000

set_option maxHeartbeats 16000000 in
theorem tx_A (i : Ins) (hR : rightB i = true) (h : i.op = 1) (w : World) : Calls Tryz.prog 10 #[i.val] w fun e w' => e = .returned (.tuple #[strV (textV i), .bool true]) ∧ Below w.heap.size w w' := by
  have hh : Hid _ := h
  clear h
  have H1 := one_start i w
  have hr := inR_of hR
  have HN := num_of hR
  obtain ⟨s0, s3⟩ := shift_in hR
  obtain ⟨c0, c1⟩ := cond_in hR
  have ld : (rdT i).length ≤ 22 := reg_len _ hr.d0 hr.d1
  have ln : (rnT i).length ≤ 22 := reg_len _ hr.n0 hr.n1
  have lm : (regT i.rm false).length ≤ 22 := reg_len _ hr.m0 hr.m1
  have la : (regT i.ra false).length ≤ 22 := reg_len _ hr.a0 hr.a1
  have li : (Lib.itoa i.imm).length ≤ 21 := itoa_le HN.i0 HN.i1
  have lj : (Lib.itoa i.imm2).length ≤ 21 := itoa_le HN.j0 HN.j1
  have lk : (Lib.itoa i.amount).length ≤ 21 := itoa_le HN.k0 HN.k1
  have ly : (Lib.itoa i.sys).length ≤ 21 := itoa_le HN.y0 HN.y1
  have m0 := hr.m0
  have m1 := hr.m1
  have a0 := hr.a0
  have a1 := hr.a1
  have i0 := HN.i0
  have i1 := HN.i1
  have j0 := HN.j0
  have j1 := HN.j1
  have k0 := HN.k0
  have k1 := HN.k1
  have y0 := HN.y0
  have y1 := HN.y1
  have hwd := word_len hR
  go_enter Tryz.func10, Tryz.ntmps10
  go_upto_region 4 with (first | (refine wpList_load_if rfl 23 _ rfl w.heap.size rfl 23 _ (0, 0) _ H1.box Tryz.underlying23 rfl (by kernel_rfl) ?_; simp only [Act.put, List.setIfInBounds_toArray, List.set_cons_succ, List.set_cons_zero]) | (go_at_call 5; refine (rright_c i _).mono ?_; rw [hR]; rintro e w2 ⟨rfl, hb2⟩; replace H1 := H1.grow hb2; clear hb2; dsimp only))
  refine wp_region_rel Grows (fun x => One i w x) [.inl (.pointer (some ⟨w.heap.size, 2, none⟩)), .inl (vI i.rd), .inl i.val, .inl (.bool (spD i)), .inl (strV (rdT i)), .inl (strV (rdT i))] (by kernel_rfl) (by kernel_rfl) (One.up i w) (H1.grow (below_drawn1 _)) (by simp only [List.mem_cons, List.not_mem_nil, or_false]; rintro k hk; rcases hk with rfl | rfl | rfl | rfl | rfl | rfl <;> trivial) ?_
  refine ⟨fun w1 hC hF => ?_, ?_⟩
  · go_simp
    first | exact ⟨Below.refl _ _, rfl⟩ | exact Below.refl _ _
  simp only [Act.put, List.setIfInBounds_toArray, List.set_cons_succ, List.set_cons_zero]
  refine ⟨fun w1 hC hF => ?_, ?_⟩
  · have gg := hC.at 2 (vI i.rd) rfl
    go_simp
    first | exact ⟨Below.refl _ _, rfl⟩ | exact Below.refl _ _
  simp only [Act.put, List.setIfInBounds_toArray, List.set_cons_succ, List.set_cons_zero]
  refine ⟨fun w1 hC _ => rel_load_row 23 _ rfl w.heap.size rfl 23 i.cells (0, 0) _ hC.box Tryz.underlying23 rfl (by kernel_rfl), ?_⟩
  simp only [Act.put, List.setIfInBounds_toArray, List.set_cons_succ, List.set_cons_zero]
  refine ⟨fun w1 hC hF => ?_, ?_⟩
  · go_simp
    refine (rspD_c i w1).mono ?_
    rintro e w4 ⟨rfl, hb⟩
    first | exact ⟨rfl, hb⟩ | exact ⟨_, rfl, hb, rfl⟩
  simp only [Act.put, List.setIfInBounds_toArray, List.set_cons_succ, List.set_cons_zero]
  refine ⟨fun w1 hC hF => ?_, ?_⟩
  · go_simp
    refine (rname_c i.rd (spD i) hr.d0 hr.d1 w1).mono ?_
    rintro e w4 ⟨rfl, hb⟩
    first | exact ⟨rfl, hb⟩ | exact ⟨_, rfl, hb, rfl⟩
  simp only [Act.put, List.setIfInBounds_toArray, List.set_cons_succ, List.set_cons_zero]
  refine ⟨fun w1 hC hF => ?_, ?_⟩
  · go_simp
    first | exact ⟨Below.refl _ _, rfl⟩ | exact Below.refl _ _
  simp only [Act.put, List.setIfInBounds_toArray, List.set_cons_succ, List.set_cons_zero]
  clear H1
  intro w1 H1 hF
  clear hF
  refine then_normal ?_
  go_upto_region 5 with fail
  refine wp_region_rel Grows (fun x => One i w x) [.inl (.pointer (some ⟨w.heap.size, 3, none⟩)), .inl (vI i.rn), .inl i.val, .inl (.bool (spN i)), .inl (strV (rnT i)), .inl (strV (rnT i))] (by kernel_rfl) (by kernel_rfl) (One.up i w) (H1.grow (below_drawn1 _)) (by simp only [List.mem_cons, List.not_mem_nil, or_false]; rintro k hk; rcases hk with rfl | rfl | rfl | rfl | rfl | rfl <;> trivial) ?_
  refine ⟨fun w1 hC hF => ?_, ?_⟩
  · go_simp
    first | exact ⟨Below.refl _ _, rfl⟩ | exact Below.refl _ _
  simp only [Act.put, List.setIfInBounds_toArray, List.set_cons_succ, List.set_cons_zero]
  refine ⟨fun w1 hC hF => ?_, ?_⟩
  · have gg := hC.at 3 (vI i.rn) rfl
    go_simp
    first | exact ⟨Below.refl _ _, rfl⟩ | exact Below.refl _ _
  simp only [Act.put, List.setIfInBounds_toArray, List.set_cons_succ, List.set_cons_zero]
  refine ⟨fun w1 hC _ => rel_load_row 23 _ rfl w.heap.size rfl 23 i.cells (0, 0) _ hC.box Tryz.underlying23 rfl (by kernel_rfl), ?_⟩
  simp only [Act.put, List.setIfInBounds_toArray, List.set_cons_succ, List.set_cons_zero]
  refine ⟨fun w1 hC hF => ?_, ?_⟩
  · go_simp
    refine (rspN_c i w1).mono ?_
    rintro e w4 ⟨rfl, hb⟩
    first | exact ⟨rfl, hb⟩ | exact ⟨_, rfl, hb, rfl⟩
  simp only [Act.put, List.setIfInBounds_toArray, List.set_cons_succ, List.set_cons_zero]
  refine ⟨fun w1 hC hF => ?_, ?_⟩
  · go_simp
    refine (rname_c i.rn (spN i) hr.n0 hr.n1 w1).mono ?_
    rintro e w4 ⟨rfl, hb⟩
    first | exact ⟨rfl, hb⟩ | exact ⟨_, rfl, hb, rfl⟩
  simp only [Act.put, List.setIfInBounds_toArray, List.set_cons_succ, List.set_cons_zero]
  refine ⟨fun w1 hC hF => ?_, ?_⟩
  · go_simp
    first | exact ⟨Below.refl _ _, rfl⟩ | exact Below.refl _ _
  simp only [Act.put, List.setIfInBounds_toArray, List.set_cons_succ, List.set_cons_zero]
  clear H1
  intro w1 H1 hF
  clear hF
  refine then_normal ?_
  go_upto_region 11 with (first | ((with_reducible refine wpList_load_cell rfl 3 _ rfl _ _ rfl _ (H1.at _ _ rfl) (agg3 _) ?_); simp only [Act.put, List.setIfInBounds_toArray, List.set_cons_succ, List.set_cons_zero]) | (go_at_call 29; refine (rname_c _ _ (by omega) (by omega) _).mono ?_; rintro e w2 ⟨rfl, hb2⟩; replace H1 := H1.grow hb2; clear hb2; dsimp only) | (go_at_call 32; refine (digits_c _ (by omega) (by omega) _).mono ?_; rintro e w2 ⟨rfl, hb2⟩; replace H1 := H1.grow hb2; clear hb2; dsimp only) | ((with_reducible refine wpList_cat rfl _ _ rfl _ _ rfl rfl ?_ ?_); (focus (simp only [List.length_append, List.length_cons, List.length_nil]; omega)); simp only [Act.put, List.setIfInBounds_toArray, List.set_cons_succ, List.set_cons_zero]) | ((with_reducible refine wpList_cut rfl _ _ rfl i.shift s0 s3 rfl rfl ?_); simp only [Act.put, List.setIfInBounds_toArray, List.set_cons_succ, List.set_cons_zero]))
  have hD : ∃ D, rdT i = D := ⟨_, rfl⟩
  have hN : ∃ N, rnT i = N := ⟨_, rfl⟩
  have hM : ∃ M, regT i.rm false = M := ⟨_, rfl⟩
  have hI : ∃ IM, [35] ++ Lib.itoa i.imm = IM := ⟨_, rfl⟩
  have hA : ∃ AM, [35] ++ Lib.itoa i.amount = AM := ⟨_, rfl⟩
  obtain ⟨D, hD⟩ := hD
  obtain ⟨N, hN⟩ := hN
  obtain ⟨M, hM⟩ := hM
  obtain ⟨IM, hI⟩ := hI
  obtain ⟨AM, hA⟩ := hA
  have l1 : IM.length ≤ 22 := by rw [← hI]; simp only [List.length_append, List.length_cons, List.length_nil]; omega
  have l2 : AM.length ≤ 22 := by rw [← hA]; simp only [List.length_append, List.length_cons, List.length_nil]; omega
  rw [hD] at ld ⊢
  rw [hN] at ln ⊢
  rw [hM] at lm ⊢
  rw [hI, hA]
  replace hD := show Hid _ from hD
  replace hN := show Hid _ from hN
  replace hM := show Hid _ from hM
  replace hI := show Hid _ from hI
  replace hA := show Hid _ from hA
  clear li lk
  have h := hh.out
  clear hh
  have z0 := H1.at 0 (vI i.op) rfl
  rw [h] at z0
  go_upto_region 12 with fail
  clear z0
  have z8 := H1.at 8 (vI i.amount) rfl
  rcases amt1 hR h with ha | ha
  · rw [ha] at z8
    go_upto_region 14 with fail
    have z8b : (w2.alloc (.cells #[strV D, strV N, strV IM] 9)).cell? ⟨w.heap.size, 8, none⟩ = some (vI 0) := by rw [(below_alloc _ _).cell (by have := (Array.getElem?_eq_some_iff.1 H1.box).1; exact this)]; exact z8
    go_upto_region 73 with fail
    clear z8 z8b
    generalize hwa : World.alloc _ _ = wa
    have R : RowT w2.heap.size [D, N, IM] (.slice (some ⟨w2.heap.size, 0, none⟩) 3 3) wa := by rw [← hwa]; exact row_new _ _ (by simp) _ (Nat.le_refl _)
    have hT2 : Hid (accT (wordV i) ([D, N, IM] : List Tx) ([D, N, IM] : List Tx).length = textV i) := by
      show _ = _
      have e1 := hD.out
      have e2 := hN.out
      have e3 := hM.out
      have e4 := hI.out
      have e5 := hA.out
      subst e1; subst e2; subst e3; subst e4; subst e5
      exact t1a h ha
    have hLl := getD_le (c := 100) (L := [D, N, IM]) (le3 (by omega) (by omega) (by omega))
    have hn : ([D, N, IM] : List Tx).length = 3 := rfl
    replace H1 : One i w wa := by rw [← hwa]; exact H1.grow (below_alloc _ _)
    clear hwa
    generalize ([D, N, IM] : List Tx) = L at R hT2 hLl hn
    obtain ⟨g, hg⟩ : ∃ g, w2.heap.size = g := ⟨_, rfl⟩
    rw [hg] at R ⊢
    clear hg
    go_upto_region 74 with (first | (refine wpList_load_if rfl 23 _ rfl w.heap.size rfl 23 _ (0, 0) _ H1.box Tryz.underlying23 rfl (by kernel_rfl) ?_; simp only [Act.put, List.setIfInBounds_toArray, List.set_cons_succ, List.set_cons_zero]) | (go_at_call 35; refine (rword_c i hR _).mono ?_; rintro e w3 ⟨rfl, hb2⟩; replace H1 := H1.grow hb2; replace R := own_up R hb2; clear hb2; dsimp only))
    have RB : Hid (RowT g L (.slice (some ⟨g, 0, none⟩) 3 3) w3 ∧ Below w.heap.size w w3) := ⟨R, H1.below⟩
    clear R H1
    go_wp2
    go_loopw [14, 15] (fun s14 s15 wr => ∃ k : Nat, k ≤ L.length ∧ s15 = .int .i64 k ∧ s14 = strV (accT (wordV i) L k) ∧ Hid (RowT g L (.slice (some ⟨g, 0, none⟩) 3 3) wr ∧ Below w.heap.size w wr)) (fun s14 s15 _ => L.length - (intOf s15).toNat)
    case atStart => exact ⟨0, Nat.zero_le _, rfl, rfl, RB⟩
    case round =>
      clear RB
      obtain ⟨k, hk, rfl, rfl, RB⟩ := hrel
      by_cases hin : k < L.length
      · have z := rowT_cell RB.out.1 hin
        have t1 := accT_le hwd hLl k
        have t2 := hLl k
        have t3 : 102 * k ≤ 510 := by omega
        have eA : Hid (accT (wordV i) L (k + 1) = ((if k = 0 then accT (wordV i) L k else accT (wordV i) L k ++ [44]) ++ [32]) ++ L.getD k []) := show _ = _ from rfl
        generalize accT (wordV i) L k = S at t1 eA ⊢
        generalize L.getD k [] = P at t2 z eA
        by_cases k0 : k = 0
        · subst k0
          go_wp2_with (first | ((with_reducible refine wpList_cat rfl _ _ rfl _ _ rfl rfl ?_ ?_); (focus (simp only [List.length_append, List.length_cons, List.length_nil]; omega)); simp only [Act.put, List.setIfInBounds_toArray, List.set_cons_succ, List.set_cons_zero]))
          go_roundw
          case rel => exact ⟨0 + 1, by omega, by go_num, by rw [eA.out, if_pos rfl], RB⟩
          case measure => simp [intOf]; omega
        · have kp : (0 : Int) < k := by omega
          go_wp2_with (first | ((with_reducible refine wpList_cat rfl _ _ rfl _ _ rfl rfl ?_ ?_); (focus (simp only [List.length_append, List.length_cons, List.length_nil]; omega)); simp only [Act.put, List.setIfInBounds_toArray, List.set_cons_succ, List.set_cons_zero]))
          go_roundw
          case rel => exact ⟨k + 1, by omega, by go_num, by rw [eA.out, if_neg k0], RB⟩
          case measure => simp [intOf]; omega
      · obtain rfl : k = L.length := by omega
        go_wp2
        go_ret2
        exact ⟨by rw [← hT2.out]; rfl, RB.out.2⟩
  · rw [ha] at z8
    go_upto_region 14 with fail
    have z8b : (w2.alloc (.cells #[strV D, strV N, strV IM] 9)).cell? ⟨w.heap.size, 8, none⟩ = some (vI 12) := by rw [(below_alloc _ _).cell (by have := (Array.getElem?_eq_some_iff.1 H1.box).1; exact this)]; exact z8
    go_upto_region 15 with fail
    clear z8 z8b
    generalize hwa : World.alloc _ _ = wa
    have B1 : Below w2.heap.size w2 wa := by rw [← hwa]; exact below_alloc _ _
    have R1 : RowT w2.heap.size [D, N, IM] (.slice (some ⟨w2.heap.size, 0, none⟩) 3 3) wa := by rw [← hwa]; exact row_new _ _ (by simp) _ (Nat.le_refl _)
    clear hwa
    go_upto_region 73 with (first | ((with_reducible refine wpList_cat rfl _ _ rfl _ _ rfl rfl ?_ ?_); (focus (simp only [List.length_append, List.length_cons, List.length_nil]; omega)); simp only [Act.put, List.setIfInBounds_toArray, List.set_cons_succ, List.set_cons_zero]) | ((refine wpList_append_rows rfl _ _ rfl w2 [D, N, IM] [[108, 115, 108, 32, 35, 49, 50]] _ _ rfl rfl (own_up R1 (below_alloc _ _)) (row_new wa [[108, 115, 108, 32, 35, 49, 50]] (by simp) w2.heap.size B1.size) (below_then B1 (below_alloc _ _)) (by simp) ?_); intro v' wc RC BC; simp only [Act.put, List.setIfInBounds_toArray, List.set_cons_succ, List.set_cons_zero]))
    have R : RowT w2.heap.size ([D, N, IM] ++ [[108, 115, 108, 32, 35, 49, 50]]) v' wc := RC
    have hT2 : Hid (accT (wordV i) ([D, N, IM] ++ [[108, 115, 108, 32, 35, 49, 50]] : List Tx) ([D, N, IM] ++ [[108, 115, 108, 32, 35, 49, 50]] : List Tx).length = textV i) := by
      show _ = _
      have e1 := hD.out
      have e2 := hN.out
      have e3 := hM.out
      have e4 := hI.out
      have e5 := hA.out
      subst e1; subst e2; subst e3; subst e4; subst e5
      exact t1b h ha
    have hLl := getD_le (c := 100) (L := [D, N, IM] ++ [[108, 115, 108, 32, 35, 49, 50]]) (le4 (by omega) (by omega) (by omega) (by decide))
    have hn : ([D, N, IM] ++ [[108, 115, 108, 32, 35, 49, 50]] : List Tx).length = 4 := rfl
    replace H1 : One i w wc := H1.grow BC
    clear R1 B1 BC RC
    generalize ([D, N, IM] ++ [[108, 115, 108, 32, 35, 49, 50]] : List Tx) = L at R hT2 hLl hn
    obtain ⟨g, cp, ev⟩ := row_form R (by omega)
    rw [hn] at ev
    subst ev
    obtain ⟨bs, hbs⟩ : ∃ bs, w2.heap.size = bs := ⟨_, rfl⟩
    rw [hbs] at R
    clear hbs
    go_upto_region 74 with (first | (refine wpList_load_if rfl 23 _ rfl w.heap.size rfl 23 _ (0, 0) _ H1.box Tryz.underlying23 rfl (by kernel_rfl) ?_; simp only [Act.put, List.setIfInBounds_toArray, List.set_cons_succ, List.set_cons_zero]) | (go_at_call 35; refine (rword_c i hR _).mono ?_; rintro e w3 ⟨rfl, hb2⟩; replace H1 := H1.grow hb2; replace R := own_up R hb2; clear hb2; dsimp only))
    have RB : Hid (RowT bs L (.slice (some ⟨g, 0, none⟩) 4 cp) w3 ∧ Below w.heap.size w w3) := ⟨R, H1.below⟩
    clear R H1
    go_wp2
    go_loopw [14, 15] (fun s14 s15 wr => ∃ k : Nat, k ≤ L.length ∧ s15 = .int .i64 k ∧ s14 = strV (accT (wordV i) L k) ∧ Hid (RowT bs L (.slice (some ⟨g, 0, none⟩) 4 cp) wr ∧ Below w.heap.size w wr)) (fun s14 s15 _ => L.length - (intOf s15).toNat)
    case atStart => exact ⟨0, Nat.zero_le _, rfl, rfl, RB⟩
    case round =>
      clear RB
      obtain ⟨k, hk, rfl, rfl, RB⟩ := hrel
      by_cases hin : k < L.length
      · have z := rowT_cell RB.out.1 hin
        have t1 := accT_le hwd hLl k
        have t2 := hLl k
        have t3 : 102 * k ≤ 510 := by omega
        have eA : Hid (accT (wordV i) L (k + 1) = ((if k = 0 then accT (wordV i) L k else accT (wordV i) L k ++ [44]) ++ [32]) ++ L.getD k []) := show _ = _ from rfl
        generalize accT (wordV i) L k = S at t1 eA ⊢
        generalize L.getD k [] = P at t2 z eA
        by_cases k0 : k = 0
        · subst k0
          go_wp2_with (first | ((with_reducible refine wpList_cat rfl _ _ rfl _ _ rfl rfl ?_ ?_); (focus (simp only [List.length_append, List.length_cons, List.length_nil]; omega)); simp only [Act.put, List.setIfInBounds_toArray, List.set_cons_succ, List.set_cons_zero]))
          go_roundw
          case rel => exact ⟨0 + 1, by omega, by go_num, by rw [eA.out, if_pos rfl], RB⟩
          case measure => simp [intOf]; omega
        · have kp : (0 : Int) < k := by omega
          go_wp2_with (first | ((with_reducible refine wpList_cat rfl _ _ rfl _ _ rfl rfl ?_ ?_); (focus (simp only [List.length_append, List.length_cons, List.length_nil]; omega)); simp only [Act.put, List.setIfInBounds_toArray, List.set_cons_succ, List.set_cons_zero]))
          go_roundw
          case rel => exact ⟨k + 1, by omega, by go_num, by rw [eA.out, if_neg k0], RB⟩
          case measure => simp [intOf]; omega
      · obtain rfl : k = L.length := by omega
        go_wp2
        go_ret2
        exact ⟨by rw [← hT2.out]; rfl, RB.out.2⟩
end Go.Proofs.YtjmdgfimmjodjaaGreatDoor
