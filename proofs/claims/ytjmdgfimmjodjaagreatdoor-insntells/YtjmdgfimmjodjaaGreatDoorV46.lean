/- How an instruction is written, as the document's own answer writes it: Ops 26. -/
import Derived.Test.YtjmdgfimmjodjaaGreatDoorV41
import Derived.Test.YtjmdgfimmjodjaaGreatDoorV39
import Derived.Test.YtjmdgfimmjodjaaGreatDoorV40
import Derived.Test.YtjmdgfimmjodjaaGreatDoorV42
import Derived.Test.YtjmdgfimmjodjaaGreatDoorV43
import Derived.Test.YtjmdgfimmjodjaaGreatDoorV44
import Derived.Test.YtjmdgfimmjodjaaGreatDoorV45
import Derived.Test.YtjmdgfimmjodjaaGreatDoorV20
import Derived.Deep.LoopGhost
import Derived.BigQuiet
namespace Go.Proofs.YtjmdgfimmjodjaaGreatDoor
open Go.RowKit Go.Rel
set_option linter.unusedVariables false
set_option linter.unusedSimpArgs false
set_option maxRecDepth 8000

set_option maxHeartbeats 16000000 in
theorem tx_F (i : Ins) (hR : rightB i = true) (h : i.op = 26) (w : World) : Calls Tryz.prog 10 #[i.val] w fun e w' => e = .returned (.tuple #[strV (textV i), .bool true]) ∧ Below w.heap.size w w' := by
  have hh : Hid _ := h
  clear h
  have H1 := one_start i w
  have hr := inR_of hR
  have HN := num_of hR
  obtain ⟨s0, s3⟩ := shift_in hR
  obtain ⟨c0, c1⟩ := cond_in hR
  have ld : (rdT i).length ≤ 22 := reg_len _ hr.d0 hr.d1
  have ln : (rnT i).length ≤ 22 := reg_len _ hr.n0 hr.n1
  have lm : (regT i.rm false).length ≤ 22 := reg_len _ hr.m0 hr.m1
  have la : (regT i.ra false).length ≤ 22 := reg_len _ hr.a0 hr.a1
  have li : (Lib.itoa i.imm).length ≤ 21 := itoa_le HN.i0 HN.i1
  have lj : (Lib.itoa i.imm2).length ≤ 21 := itoa_le HN.j0 HN.j1
  have lk : (Lib.itoa i.amount).length ≤ 21 := itoa_le HN.k0 HN.k1
  have ly : (Lib.itoa i.sys).length ≤ 21 := itoa_le HN.y0 HN.y1
  have m0 := hr.m0
  have m1 := hr.m1
  have a0 := hr.a0
  have a1 := hr.a1
  have i0 := HN.i0
  have i1 := HN.i1
  have j0 := HN.j0
  have j1 := HN.j1
  have k0 := HN.k0
  have k1 := HN.k1
  have y0 := HN.y0
  have y1 := HN.y1
  have hwd := word_len hR
  go_enter Tryz.func10, Tryz.ntmps10
  go_upto_region 4 with (first | (refine wpList_load_if rfl 23 _ rfl w.heap.size rfl 23 _ (0, 0) _ H1.box Tryz.underlying23 rfl (by kernel_rfl) ?_; simp only [Act.put, List.setIfInBounds_toArray, List.set_cons_succ, List.set_cons_zero]) | (go_at_call 5; refine (rright_c i _).mono ?_; rw [hR]; rintro e w2 ⟨rfl, hb2⟩; replace H1 := H1.grow hb2; clear hb2; dsimp only))
  refine wp_region_rel Grows (fun x => One i w x) [.inl (.pointer (some ⟨w.heap.size, 2, none⟩)), .inl (vI i.rd), .inl i.val, .inl (.bool (spD i)), .inl (strV (rdT i)), .inl (strV (rdT i))] (by kernel_rfl) (by kernel_rfl) (One.up i w) (H1.grow (below_drawn1 _)) (by simp only [List.mem_cons, List.not_mem_nil, or_false]; rintro k hk; rcases hk with rfl | rfl | rfl | rfl | rfl | rfl <;> trivial) ?_
  refine ⟨fun w1 hC hF => ?_, ?_⟩
  · go_simp
    first | exact ⟨Below.refl _ _, rfl⟩ | exact Below.refl _ _
  simp only [Act.put, List.setIfInBounds_toArray, List.set_cons_succ, List.set_cons_zero]
  refine ⟨fun w1 hC hF => ?_, ?_⟩
  · have gg := hC.at 2 (vI i.rd) rfl
    go_simp
    first | exact ⟨Below.refl _ _, rfl⟩ | exact Below.refl _ _
  simp only [Act.put, List.setIfInBounds_toArray, List.set_cons_succ, List.set_cons_zero]
  refine ⟨fun w1 hC _ => rel_load_row 23 _ rfl w.heap.size rfl 23 i.cells (0, 0) _ hC.box Tryz.underlying23 rfl (by kernel_rfl), ?_⟩
  simp only [Act.put, List.setIfInBounds_toArray, List.set_cons_succ, List.set_cons_zero]
  refine ⟨fun w1 hC hF => ?_, ?_⟩
  · go_simp
    refine (rspD_c i w1).mono ?_
    rintro e w4 ⟨rfl, hb⟩
    first | exact ⟨rfl, hb⟩ | exact ⟨_, rfl, hb, rfl⟩
  simp only [Act.put, List.setIfInBounds_toArray, List.set_cons_succ, List.set_cons_zero]
  refine ⟨fun w1 hC hF => ?_, ?_⟩
  · go_simp
    refine (rname_c i.rd (spD i) hr.d0 hr.d1 w1).mono ?_
    rintro e w4 ⟨rfl, hb⟩
    first | exact ⟨rfl, hb⟩ | exact ⟨_, rfl, hb, rfl⟩
  simp only [Act.put, List.setIfInBounds_toArray, List.set_cons_succ, List.set_cons_zero]
  refine ⟨fun w1 hC hF => ?_, ?_⟩
  · go_simp
    first | exact ⟨Below.refl _ _, rfl⟩ | exact Below.refl _ _
  simp only [Act.put, List.setIfInBounds_toArray, List.set_cons_succ, List.set_cons_zero]
  clear H1
  intro w1 H1 hF
  clear hF
  refine then_normal ?_
  go_upto_region 5 with fail
  refine wp_region_rel Grows (fun x => One i w x) [.inl (.pointer (some ⟨w.heap.size, 3, none⟩)), .inl (vI i.rn), .inl i.val, .inl (.bool (spN i)), .inl (strV (rnT i)), .inl (strV (rnT i))] (by kernel_rfl) (by kernel_rfl) (One.up i w) (H1.grow (below_drawn1 _)) (by simp only [List.mem_cons, List.not_mem_nil, or_false]; rintro k hk; rcases hk with rfl | rfl | rfl | rfl | rfl | rfl <;> trivial) ?_
  refine ⟨fun w1 hC hF => ?_, ?_⟩
  · go_simp
    first | exact ⟨Below.refl _ _, rfl⟩ | exact Below.refl _ _
  simp only [Act.put, List.setIfInBounds_toArray, List.set_cons_succ, List.set_cons_zero]
  refine ⟨fun w1 hC hF => ?_, ?_⟩
  · have gg := hC.at 3 (vI i.rn) rfl
    go_simp
    first | exact ⟨Below.refl _ _, rfl⟩ | exact Below.refl _ _
  simp only [Act.put, List.setIfInBounds_toArray, List.set_cons_succ, List.set_cons_zero]
  refine ⟨fun w1 hC _ => rel_load_row 23 _ rfl w.heap.size rfl 23 i.cells (0, 0) _ hC.box Tryz.underlying23 rfl (by kernel_rfl), ?_⟩
  simp only [Act.put, List.setIfInBounds_toArray, List.set_cons_succ, List.set_cons_zero]
  refine ⟨fun w1 hC hF => ?_, ?_⟩
  · go_simp
    refine (rspN_c i w1).mono ?_
    rintro e w4 ⟨rfl, hb⟩
    first | exact ⟨rfl, hb⟩ | exact ⟨_, rfl, hb, rfl⟩
  simp only [Act.put, List.setIfInBounds_toArray, List.set_cons_succ, List.set_cons_zero]
  refine ⟨fun w1 hC hF => ?_, ?_⟩
  · go_simp
    refine (rname_c i.rn (spN i) hr.n0 hr.n1 w1).mono ?_
    rintro e w4 ⟨rfl, hb⟩
    first | exact ⟨rfl, hb⟩ | exact ⟨_, rfl, hb, rfl⟩
  simp only [Act.put, List.setIfInBounds_toArray, List.set_cons_succ, List.set_cons_zero]
  refine ⟨fun w1 hC hF => ?_, ?_⟩
  · go_simp
    first | exact ⟨Below.refl _ _, rfl⟩ | exact Below.refl _ _
  simp only [Act.put, List.setIfInBounds_toArray, List.set_cons_succ, List.set_cons_zero]
  clear H1
  intro w1 H1 hF
  clear hF
  refine then_normal ?_
  go_upto_region 11 with (first | ((with_reducible refine wpList_load_cell rfl 3 _ rfl _ _ rfl _ (H1.at _ _ rfl) (agg3 _) ?_); simp only [Act.put, List.setIfInBounds_toArray, List.set_cons_succ, List.set_cons_zero]) | (go_at_call 29; refine (rname_c _ _ (by omega) (by omega) _).mono ?_; rintro e w2 ⟨rfl, hb2⟩; replace H1 := H1.grow hb2; clear hb2; dsimp only) | (go_at_call 32; refine (digits_c _ (by omega) (by omega) _).mono ?_; rintro e w2 ⟨rfl, hb2⟩; replace H1 := H1.grow hb2; clear hb2; dsimp only) | ((with_reducible refine wpList_cat rfl _ _ rfl _ _ rfl rfl ?_ ?_); (focus (simp only [List.length_append, List.length_cons, List.length_nil]; omega)); simp only [Act.put, List.setIfInBounds_toArray, List.set_cons_succ, List.set_cons_zero]) | ((with_reducible refine wpList_cut rfl _ _ rfl i.shift s0 s3 rfl rfl ?_); simp only [Act.put, List.setIfInBounds_toArray, List.set_cons_succ, List.set_cons_zero]))
  have hD : ∃ D, rdT i = D := ⟨_, rfl⟩
  have hN : ∃ N, rnT i = N := ⟨_, rfl⟩
  have hM : ∃ M, regT i.rm false = M := ⟨_, rfl⟩
  have hI : ∃ IM, [35] ++ Lib.itoa i.imm = IM := ⟨_, rfl⟩
  have hA : ∃ AM, [35] ++ Lib.itoa i.amount = AM := ⟨_, rfl⟩
  obtain ⟨D, hD⟩ := hD
  obtain ⟨N, hN⟩ := hN
  obtain ⟨M, hM⟩ := hM
  obtain ⟨IM, hI⟩ := hI
  obtain ⟨AM, hA⟩ := hA
  have l1 : IM.length ≤ 22 := by rw [← hI]; simp only [List.length_append, List.length_cons, List.length_nil]; omega
  have l2 : AM.length ≤ 22 := by rw [← hA]; simp only [List.length_append, List.length_cons, List.length_nil]; omega
  rw [hD] at ld ⊢
  rw [hN] at ln ⊢
  rw [hM] at lm ⊢
  rw [hI, hA]
  replace hD := show Hid _ from hD
  replace hN := show Hid _ from hN
  replace hM := show Hid _ from hM
  replace hI := show Hid _ from hI
  replace hA := show Hid _ from hA
  clear li lk
  have h := hh.out
  clear hh
  have z0 := H1.at 0 (vI i.op) rfl
  rw [h] at z0
  go_upto_region 12 with fail
  clear z0
  have z1 := H1.at 6 (vI i.imm) rfl
  have hsx := imm26 hR h
  replace h := show Hid _ from h
  go_upto_region 63 with fail
  rcases hsx with ha | ha | ha
  · have z1b : (w2.alloc (.cells #[strV [], strV [108, 100], strV [115, 116], strV [115, 121]] 9)).cell? ⟨w.heap.size, 6, none⟩ = some (vI 1) := by rw [(below_alloc _ _).cell (by have := (Array.getElem?_eq_some_iff.1 H1.box).1; exact this), ← ha]; exact z1
    replace ha := show Hid _ from ha
    go_upto_region 73 with fail
    clear z1 z1b
    obtain ⟨w4, hw4⟩ : ∃ w4, w2.alloc (.cells #[strV [], strV [108, 100], strV [115, 116], strV [115, 121]] 9) = w4 := ⟨_, rfl⟩
    have hs4 : w2.heap.size + 1 = w4.heap.size := by rw [← hw4]; simp
    replace H1 : One i w w4 := by rw [← hw4]; exact H1.grow (below_alloc _ _)
    rw [hw4, hs4]
    clear hw4 hs4
    generalize hwa : World.alloc _ _ = wa
    have R : RowT w4.heap.size [[108, 100]] (.slice (some ⟨w4.heap.size, 0, none⟩) 1 1) wa := by rw [← hwa]; exact row_new _ _ (by simp) _ (Nat.le_refl _)
    have hT2 : Hid (accT (wordV i) ([[108, 100]] : List Tx) ([[108, 100]] : List Tx).length = textV i) := by
      show _ = _
      have e1 := hD.out
      have e2 := hN.out
      have e3 := hM.out
      have e4 := hI.out
      have e5 := hA.out
      subst e1; subst e2; subst e3; subst e4; subst e5
      exact (by have q := t26 h.out; rw [ha.out] at q; exact q)
    have hLl := getD_le (c := 100) (L := [[108, 100]]) (le1 (by decide))
    have hn : ([[108, 100]] : List Tx).length = 1 := rfl
    replace H1 : One i w wa := by rw [← hwa]; exact H1.grow (below_alloc _ _)
    clear hwa
    generalize ([[108, 100]] : List Tx) = L at R hT2 hLl hn
    obtain ⟨g, hg⟩ : ∃ g, w4.heap.size = g := ⟨_, rfl⟩
    rw [hg] at R ⊢
    clear hg
    go_upto_region 74 with (first | (refine wpList_load_if rfl 23 _ rfl w.heap.size rfl 23 _ (0, 0) _ H1.box Tryz.underlying23 rfl (by kernel_rfl) ?_; simp only [Act.put, List.setIfInBounds_toArray, List.set_cons_succ, List.set_cons_zero]) | (go_at_call 35; refine (rword_c i hR _).mono ?_; rintro e w3 ⟨rfl, hb2⟩; replace H1 := H1.grow hb2; replace R := own_up R hb2; clear hb2; dsimp only))
    have RB : Hid (RowT g L (.slice (some ⟨g, 0, none⟩) 1 1) w3 ∧ Below w.heap.size w w3) := ⟨R, H1.below⟩
    clear R H1
    go_wp2
    go_loopw [14, 15] (fun s14 s15 wr => ∃ k : Nat, k ≤ L.length ∧ s15 = .int .i64 k ∧ s14 = strV (accT (wordV i) L k) ∧ Hid (RowT g L (.slice (some ⟨g, 0, none⟩) 1 1) wr ∧ Below w.heap.size w wr)) (fun s14 s15 _ => L.length - (intOf s15).toNat)
    case atStart => exact ⟨0, Nat.zero_le _, rfl, rfl, RB⟩
    case round =>
      clear RB
      obtain ⟨k, hk, rfl, rfl, RB⟩ := hrel
      by_cases hin : k < L.length
      · have z := rowT_cell RB.out.1 hin
        have t1 := accT_le hwd hLl k
        have t2 := hLl k
        have t3 : 102 * k ≤ 510 := by omega
        have eA : Hid (accT (wordV i) L (k + 1) = ((if k = 0 then accT (wordV i) L k else accT (wordV i) L k ++ [44]) ++ [32]) ++ L.getD k []) := show _ = _ from rfl
        generalize accT (wordV i) L k = S at t1 eA ⊢
        generalize L.getD k [] = P at t2 z eA
        by_cases k0 : k = 0
        · subst k0
          go_wp2_with (first | ((with_reducible refine wpList_cat rfl _ _ rfl _ _ rfl rfl ?_ ?_); (focus (simp only [List.length_append, List.length_cons, List.length_nil]; omega)); simp only [Act.put, List.setIfInBounds_toArray, List.set_cons_succ, List.set_cons_zero]))
          go_roundw
          case rel => exact ⟨0 + 1, by omega, by go_num, by rw [eA.out, if_pos rfl], RB⟩
          case measure => simp [intOf]; omega
        · omega
      · obtain rfl : k = L.length := by omega
        go_wp2
        go_ret2
        exact ⟨by rw [← hT2.out]; rfl, RB.out.2⟩
  · have z1b : (w2.alloc (.cells #[strV [], strV [108, 100], strV [115, 116], strV [115, 121]] 9)).cell? ⟨w.heap.size, 6, none⟩ = some (vI 2) := by rw [(below_alloc _ _).cell (by have := (Array.getElem?_eq_some_iff.1 H1.box).1; exact this), ← ha]; exact z1
    replace ha := show Hid _ from ha
    go_upto_region 73 with fail
    clear z1 z1b
    obtain ⟨w4, hw4⟩ : ∃ w4, w2.alloc (.cells #[strV [], strV [108, 100], strV [115, 116], strV [115, 121]] 9) = w4 := ⟨_, rfl⟩
    have hs4 : w2.heap.size + 1 = w4.heap.size := by rw [← hw4]; simp
    replace H1 : One i w w4 := by rw [← hw4]; exact H1.grow (below_alloc _ _)
    rw [hw4, hs4]
    clear hw4 hs4
    generalize hwa : World.alloc _ _ = wa
    have R : RowT w4.heap.size [[115, 116]] (.slice (some ⟨w4.heap.size, 0, none⟩) 1 1) wa := by rw [← hwa]; exact row_new _ _ (by simp) _ (Nat.le_refl _)
    have hT2 : Hid (accT (wordV i) ([[115, 116]] : List Tx) ([[115, 116]] : List Tx).length = textV i) := by
      show _ = _
      have e1 := hD.out
      have e2 := hN.out
      have e3 := hM.out
      have e4 := hI.out
      have e5 := hA.out
      subst e1; subst e2; subst e3; subst e4; subst e5
      exact (by have q := t26 h.out; rw [ha.out] at q; exact q)
    have hLl := getD_le (c := 100) (L := [[115, 116]]) (le1 (by decide))
    have hn : ([[115, 116]] : List Tx).length = 1 := rfl
    replace H1 : One i w wa := by rw [← hwa]; exact H1.grow (below_alloc _ _)
    clear hwa
    generalize ([[115, 116]] : List Tx) = L at R hT2 hLl hn
    obtain ⟨g, hg⟩ : ∃ g, w4.heap.size = g := ⟨_, rfl⟩
    rw [hg] at R ⊢
    clear hg
    go_upto_region 74 with (first | (refine wpList_load_if rfl 23 _ rfl w.heap.size rfl 23 _ (0, 0) _ H1.box Tryz.underlying23 rfl (by kernel_rfl) ?_; simp only [Act.put, List.setIfInBounds_toArray, List.set_cons_succ, List.set_cons_zero]) | (go_at_call 35; refine (rword_c i hR _).mono ?_; rintro e w3 ⟨rfl, hb2⟩; replace H1 := H1.grow hb2; replace R := own_up R hb2; clear hb2; dsimp only))
    have RB : Hid (RowT g L (.slice (some ⟨g, 0, none⟩) 1 1) w3 ∧ Below w.heap.size w w3) := ⟨R, H1.below⟩
    clear R H1
    go_wp2
    go_loopw [14, 15] (fun s14 s15 wr => ∃ k : Nat, k ≤ L.length ∧ s15 = .int .i64 k ∧ s14 = strV (accT (wordV i) L k) ∧ Hid (RowT g L (.slice (some ⟨g, 0, none⟩) 1 1) wr ∧ Below w.heap.size w wr)) (fun s14 s15 _ => L.length - (intOf s15).toNat)
    case atStart => exact ⟨0, Nat.zero_le _, rfl, rfl, RB⟩
    case round =>
      clear RB
      obtain ⟨k, hk, rfl, rfl, RB⟩ := hrel
      by_cases hin : k < L.length
      · have z := rowT_cell RB.out.1 hin
        have t1 := accT_le hwd hLl k
        have t2 := hLl k
        have t3 : 102 * k ≤ 510 := by omega
        have eA : Hid (accT (wordV i) L (k + 1) = ((if k = 0 then accT (wordV i) L k else accT (wordV i) L k ++ [44]) ++ [32]) ++ L.getD k []) := show _ = _ from rfl
        generalize accT (wordV i) L k = S at t1 eA ⊢
        generalize L.getD k [] = P at t2 z eA
        by_cases k0 : k = 0
        · subst k0
          go_wp2_with (first | ((with_reducible refine wpList_cat rfl _ _ rfl _ _ rfl rfl ?_ ?_); (focus (simp only [List.length_append, List.length_cons, List.length_nil]; omega)); simp only [Act.put, List.setIfInBounds_toArray, List.set_cons_succ, List.set_cons_zero]))
          go_roundw
          case rel => exact ⟨0 + 1, by omega, by go_num, by rw [eA.out, if_pos rfl], RB⟩
          case measure => simp [intOf]; omega
        · omega
      · obtain rfl : k = L.length := by omega
        go_wp2
        go_ret2
        exact ⟨by rw [← hT2.out]; rfl, RB.out.2⟩
  · have z1b : (w2.alloc (.cells #[strV [], strV [108, 100], strV [115, 116], strV [115, 121]] 9)).cell? ⟨w.heap.size, 6, none⟩ = some (vI 3) := by rw [(below_alloc _ _).cell (by have := (Array.getElem?_eq_some_iff.1 H1.box).1; exact this), ← ha]; exact z1
    replace ha := show Hid _ from ha
    go_upto_region 73 with fail
    clear z1 z1b
    obtain ⟨w4, hw4⟩ : ∃ w4, w2.alloc (.cells #[strV [], strV [108, 100], strV [115, 116], strV [115, 121]] 9) = w4 := ⟨_, rfl⟩
    have hs4 : w2.heap.size + 1 = w4.heap.size := by rw [← hw4]; simp
    replace H1 : One i w w4 := by rw [← hw4]; exact H1.grow (below_alloc _ _)
    rw [hw4, hs4]
    clear hw4 hs4
    generalize hwa : World.alloc _ _ = wa
    have R : RowT w4.heap.size [[115, 121]] (.slice (some ⟨w4.heap.size, 0, none⟩) 1 1) wa := by rw [← hwa]; exact row_new _ _ (by simp) _ (Nat.le_refl _)
    have hT2 : Hid (accT (wordV i) ([[115, 121]] : List Tx) ([[115, 121]] : List Tx).length = textV i) := by
      show _ = _
      have e1 := hD.out
      have e2 := hN.out
      have e3 := hM.out
      have e4 := hI.out
      have e5 := hA.out
      subst e1; subst e2; subst e3; subst e4; subst e5
      exact (by have q := t26 h.out; rw [ha.out] at q; exact q)
    have hLl := getD_le (c := 100) (L := [[115, 121]]) (le1 (by decide))
    have hn : ([[115, 121]] : List Tx).length = 1 := rfl
    replace H1 : One i w wa := by rw [← hwa]; exact H1.grow (below_alloc _ _)
    clear hwa
    generalize ([[115, 121]] : List Tx) = L at R hT2 hLl hn
    obtain ⟨g, hg⟩ : ∃ g, w4.heap.size = g := ⟨_, rfl⟩
    rw [hg] at R ⊢
    clear hg
    go_upto_region 74 with (first | (refine wpList_load_if rfl 23 _ rfl w.heap.size rfl 23 _ (0, 0) _ H1.box Tryz.underlying23 rfl (by kernel_rfl) ?_; simp only [Act.put, List.setIfInBounds_toArray, List.set_cons_succ, List.set_cons_zero]) | (go_at_call 35; refine (rword_c i hR _).mono ?_; rintro e w3 ⟨rfl, hb2⟩; replace H1 := H1.grow hb2; replace R := own_up R hb2; clear hb2; dsimp only))
    have RB : Hid (RowT g L (.slice (some ⟨g, 0, none⟩) 1 1) w3 ∧ Below w.heap.size w w3) := ⟨R, H1.below⟩
    clear R H1
    go_wp2
    go_loopw [14, 15] (fun s14 s15 wr => ∃ k : Nat, k ≤ L.length ∧ s15 = .int .i64 k ∧ s14 = strV (accT (wordV i) L k) ∧ Hid (RowT g L (.slice (some ⟨g, 0, none⟩) 1 1) wr ∧ Below w.heap.size w wr)) (fun s14 s15 _ => L.length - (intOf s15).toNat)
    case atStart => exact ⟨0, Nat.zero_le _, rfl, rfl, RB⟩
    case round =>
      clear RB
      obtain ⟨k, hk, rfl, rfl, RB⟩ := hrel
      by_cases hin : k < L.length
      · have z := rowT_cell RB.out.1 hin
        have t1 := accT_le hwd hLl k
        have t2 := hLl k
        have t3 : 102 * k ≤ 510 := by omega
        have eA : Hid (accT (wordV i) L (k + 1) = ((if k = 0 then accT (wordV i) L k else accT (wordV i) L k ++ [44]) ++ [32]) ++ L.getD k []) := show _ = _ from rfl
        generalize accT (wordV i) L k = S at t1 eA ⊢
        generalize L.getD k [] = P at t2 z eA
        by_cases k0 : k = 0
        · subst k0
          go_wp2_with (first | ((with_reducible refine wpList_cat rfl _ _ rfl _ _ rfl rfl ?_ ?_); (focus (simp only [List.length_append, List.length_cons, List.length_nil]; omega)); simp only [Act.put, List.setIfInBounds_toArray, List.set_cons_succ, List.set_cons_zero]))
          go_roundw
          case rel => exact ⟨0 + 1, by omega, by go_num, by rw [eA.out, if_pos rfl], RB⟩
          case measure => simp [intOf]; omega
        · omega
      · obtain rfl : k = L.length := by omega
        go_wp2
        go_ret2
        exact ⟨by rw [← hT2.out]; rfl, RB.out.2⟩
end Go.Proofs.YtjmdgfimmjodjaaGreatDoor
/- How an instruction is written, as the document's own answer writes it: for every instruction that is right. -/
namespace Go.Proofs.YtjmdgfimmjodjaaGreatDoor
open Go.RowKit Go.Rel

theorem rText_yes (i : Ins) (hR : rightB i = true) (w : World) : Calls Tryz.prog 10 #[i.val] w fun e w' => e = .returned (.tuple #[strV (textV i), .bool true]) ∧ Below w.heap.size w w' := by
  obtain ⟨o0, o1⟩ := op_in hR
  rcases (by omega : i.op ≤ 12 ∨ (13 ≤ i.op ∧ i.op ≤ 24) ∨ 25 ≤ i.op) with q | q | q
  · rcases (by omega : i.op = 1 ∨ i.op = 2 ∨ i.op = 3 ∨ i.op = 4 ∨ i.op = 5 ∨ i.op = 6 ∨ i.op = 7 ∨ i.op = 8 ∨ i.op = 9 ∨ i.op = 10 ∨ i.op = 11 ∨ i.op = 12) with h | h | h | h | h | h | h | h | h | h | h | h
    · exact tx_A i hR h w
    · exact tx_B i hR (by simp [h]) w
    · exact tx_B i hR (by simp [h]) w
    · exact tx_D i hR h w
    · exact tx_C i hR h w
    · exact tx_4 i hR (by simp [h]) w
    · exact tx_3 i hR (by simp [h]) w
    · exact tx_4 i hR (by simp [h]) w
    · exact tx_3 i hR (by simp [h]) w
    · exact tx_4 i hR (by simp [h]) w
    · exact tx_2 i hR (by simp [h]) w
    · exact tx_1 i hR (by simp [h]) w
  · rcases (by omega : i.op = 13 ∨ i.op = 14 ∨ i.op = 15 ∨ i.op = 16 ∨ i.op = 17 ∨ i.op = 18 ∨ i.op = 19 ∨ i.op = 20 ∨ i.op = 21 ∨ i.op = 22 ∨ i.op = 23 ∨ i.op = 24) with h | h | h | h | h | h | h | h | h | h | h | h
    · exact tx_1 i hR (by simp [h]) w
    · exact tx_2 i hR (by simp [h]) w
    · exact tx_3 i hR (by simp [h]) w
    · exact tx_1 i hR (by simp [h]) w
    · exact tx_3 i hR (by simp [h]) w
    · exact tx_3 i hR (by simp [h]) w
    · exact tx_4 i hR (by simp [h]) w
    · exact tx_4 i hR (by simp [h]) w
    · exact tx_2 i hR (by simp [h]) w
    · exact tx_2 i hR (by simp [h]) w
    · exact tx_2 i hR (by simp [h]) w
    · exact tx_3 i hR (by simp [h]) w
  · rcases (by omega : i.op = 25 ∨ i.op = 26 ∨ i.op = 27 ∨ i.op = 28 ∨ i.op = 29 ∨ i.op = 30 ∨ i.op = 31 ∨ i.op = 32 ∨ i.op = 33 ∨ i.op = 34 ∨ i.op = 35 ∨ i.op = 36 ∨ i.op = 37) with h | h | h | h | h | h | h | h | h | h | h | h | h
    · exact tx_0 i hR (by simp [h]) w
    · exact tx_F i hR h w
    · exact tx_0 i hR (by simp [h]) w
    · exact tx_1 i hR (by simp [h]) w
    · exact tx_0 i hR (by simp [h]) w
    · exact tx_1 i hR (by simp [h]) w
    · exact tx_2 i hR (by simp [h]) w
    · exact tx_2 i hR (by simp [h]) w
    · exact tx_E i hR h w
    · exact tx_1 i hR (by simp [h]) w
    · exact tx_1 i hR (by simp [h]) w
    · exact tx_0 i hR (by simp [h]) w
    · exact tx_1 i hR (by simp [h]) w
end Go.Proofs.YtjmdgfimmjodjaaGreatDoor
/- Two lists that hold the same are told to be the same: a contract. -/
namespace Go.Proofs.YtjmdgfimmjodjaaGreatDoor
open Go.RowKit Go.Rel

set_option maxRecDepth 8000 in
set_option maxHeartbeats 1000000 in
theorem same_some (g1 c1 g2 c2 n : Nat) (f : Nat → Int) (hn : n ≤ 32) (w : World) (d1 : ∀ j, j < n → w.cell? ⟨g1, j, none⟩ = some (vI (f j))) (d2 : ∀ j, j < n → w.cell? ⟨g2, j, none⟩ = some (vI (f j))) :
    Calls Tryz.prog 16 #[.slice (some ⟨g1, 0, none⟩) n c1, .slice (some ⟨g2, 0, none⟩) n c2] w fun e w' => e = .returned (.bool true) ∧ ∃ m, w' = w.drewN m := by
  replace d1 : Hid (∀ j, j < n → w.cell? ⟨g1, j, none⟩ = some (vI (f j))) := d1
  replace d2 : Hid (∀ j, j < n → w.cell? ⟨g2, j, none⟩ = some (vI (f j))) := d2
  go_enter Tryz.func16, Tryz.ntmps16
  go_wp2
  go_loopg [5] n (fun gk s5 wx => ∃ k : Nat, k + gk = n ∧ s5 = .int .i64 k ∧ Hid (∃ m, wx = w.drewN m))
  case atStart => exact ⟨0, by omega, rfl, 0, rfl⟩
  case round =>
    obtain ⟨k, hkg, rfl, hw⟩ := hrel
    by_cases hlt : (k : Int) < n
    · obtain ⟨m, rfl⟩ := hw.out
      have e1 : (w.drewN m).cell? ⟨g1, k, none⟩ = some (vI (f k)) := d1.out k (by omega)
      have e2 : (w.drewN m).cell? ⟨g2, k, none⟩ = some (vI (f k)) := d2.out k (by omega)
      generalize hq : w.drewN m = wq at *
      go_wp2
      go_quiet (fail)
      go_wp2
      go_roundg (gk - 1)
      case rel =>
        refine ⟨k + 1, by omega, by go_num, ?_⟩
        subst hq
        exact ⟨m + nq, by simp [World.drewN, Nat.add_assoc]⟩
      case measure => omega
    · obtain ⟨m, hm⟩ := hw.out
      go_wp2
      go_ret
      first | exact ⟨rfl, m, hm⟩ | exact ⟨rfl, m, rfl⟩
set_option maxRecDepth 8000 in
set_option maxHeartbeats 1000000 in
theorem same_none (v1 v2 : Value) (h1 : v1 = .slice none 0 0 ∨ ∃ a c, v1 = .slice a 0 c) (h2 : v2 = .slice none 0 0 ∨ ∃ a c, v2 = .slice a 0 c) (w : World) :
    Calls Tryz.prog 16 #[v1, v2] w fun e w' => e = .returned (.bool true) ∧ ∃ m, w' = w.drewN m := by
  obtain ⟨a1, c1, rfl⟩ : ∃ a c, v1 = .slice a 0 c := by rcases h1 with rfl | h; exact ⟨none, 0, rfl⟩; exact h
  obtain ⟨a2, c2, rfl⟩ : ∃ a c, v2 = .slice a 0 c := by rcases h2 with rfl | h; exact ⟨none, 0, rfl⟩; exact h
  clear h1 h2
  go_enter Tryz.func16, Tryz.ntmps16
  go_wp2
  go_loopg [5] 0 (fun gk s5 wx => s5 = .int .i64 0 ∧ Hid (wx = w))
  case atStart => exact ⟨rfl, rfl⟩
  case round =>
    obtain ⟨rfl, hw⟩ := hrel
    go_wp2
    go_ret
    exact ⟨rfl, 0, hw.out⟩
theorem same_c {w : World} {b1 b2 S : Nat} {v1 v2 : Value} (h1 : RowL b1 S v1 w) (h2 : RowL b2 S v2 w) :
    Calls Tryz.prog 16 #[v1, v2] w fun e w' => e = .returned (.bool true) ∧ ∃ m, w' = w.drewN m := by
  have hn := listL_le S 32
  by_cases h0 : (listL S 32).length = 0
  · refine same_none v1 v2 ?_ ?_ w
    · rcases h1.2 with ⟨h, -⟩ | ⟨g, cap, cur, h, -⟩
      · exact Or.inl h
      · exact Or.inr ⟨_, _, by rw [h, h0]⟩
    · rcases h2.2 with ⟨h, -⟩ | ⟨g, cap, cur, h, -⟩
      · exact Or.inl h
      · exact Or.inr ⟨_, _, by rw [h, h0]⟩
  · have q1 := h1
    have q2 := h2
    rcases h1.2 with ⟨-, h⟩ | ⟨g1, c1, cur1, rfl, -⟩
    · exact absurd h h0
    rcases h2.2 with ⟨-, h⟩ | ⟨g2, c2, cur2, rfl, -⟩
    · exact absurd h h0
    refine same_some g1 c1 g2 c2 _ (fun j => (((listL S 32).getD j 0 : Nat) : Int)) hn w ?_ ?_
    · intro j hj
      rw [q1.cellAt j (by omega)]
      simp [listV, List.getElem?_eq_getElem hj, List.getD_eq_getElem?_getD]
    · intro j hj
      rw [q2.cellAt j (by omega)]
      simp [listV, List.getElem?_eq_getElem hj, List.getD_eq_getElem?_getD]
end Go.Proofs.YtjmdgfimmjodjaaGreatDoor
