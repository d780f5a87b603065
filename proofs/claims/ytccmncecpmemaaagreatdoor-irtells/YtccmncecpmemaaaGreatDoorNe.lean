/- The document's Text: the walk. -/
import Derived.Test.YtccmncecpmemaaaGreatDoorXn
import Derived.Deep.CutBlock
namespace Go.Proofs.YtccmncecpmemaaaGreatDoor
open Go.RowKit
set_option linter.unusedVariables false
set_option linter.unusedSimpArgs false
set_option maxRecDepth 8000

theorem has1_yes {k : Int} (hk : isK k = true) (h : hasP k 1 = true) : k = 2 ∨ k = 3 ∨ k = 6 ∨ k = 7 ∨ k = 8 ∨ k = 13 := by
  rcases isK_cases hk with rfl | rfl | rfl | rfl | rfl | rfl | rfl | rfl | rfl | rfl | rfl | rfl | rfl | rfl | rfl | rfl | rfl | rfl <;> simp [go_sem] at h <;> omega
theorem has1_no {k : Int} (hk : isK k = true) (h : hasP k 1 = false) : ¬ k = 2 ∧ ¬ k = 3 ∧ ¬ k = 6 ∧ ¬ k = 7 ∧ ¬ k = 8 ∧ ¬ k = 13 := by
  rcases isK_cases hk with rfl | rfl | rfl | rfl | rfl | rfl | rfl | rfl | rfl | rfl | rfl | rfl | rfl | rfl | rfl | rfl | rfl | rfl <;> simp [go_sem] at h <;> omega
theorem has16_yes {k : Int} (hk : isK k = true) (h : hasP k 16 = true) : k = 1 ∨ k = 14 ∨ k = 15 ∨ k = 16 ∨ k = 18 := by
  rcases isK_cases hk with rfl | rfl | rfl | rfl | rfl | rfl | rfl | rfl | rfl | rfl | rfl | rfl | rfl | rfl | rfl | rfl | rfl | rfl <;> simp [go_sem] at h <;> omega
theorem has16_no {k : Int} (hk : isK k = true) (h : hasP k 16 = false) : ¬ k = 1 ∧ ¬ k = 14 ∧ ¬ k = 15 ∧ ¬ k = 16 ∧ ¬ k = 18 := by
  rcases isK_cases hk with rfl | rfl | rfl | rfl | rfl | rfl | rfl | rfl | rfl | rfl | rfl | rfl | rfl | rfl | rfl | rfl | rfl | rfl <;> simp [go_sem] at h <;> omega
theorem acc_has {k : Int} (hk : isK k = true) : accB k = hasP k 8 := by
  rcases isK_cases hk with rfl | rfl | rfl | rfl | rfl | rfl | rfl | rfl | rfl | rfl | rfl | rfl | rfl | rfl | rfl | rfl | rfl | rfl <;> decide +kernel
set_option maxHeartbeats 16000000 in
theorem dText_yes {w : World} {v : Value} {l : List Opr} {pc words el : Int} (hpc : 0 ≤ pc) (O : Ops w v l) (himm : ∀ k, 0 ≤ (opAt l k).imm) (himm2 : ∀ k, (opAt l k).imm < 18446744073709551616) (hcap : ∀ ao n cap, v = .slice ao n cap → n ≤ cap) (hR : rightB pc words el l = true) :
    Calls Tryz.prog 8 #[blV pc words el v] w fun e w' => e = .returned (.tuple #[.string (docLs l l.length), .bool true]) ∧ Below w.heap.size w w' := by
  have hH : headB pc words el l = true := by unfold rightB at hR; rw [Bool.and_eq_true] at hR; exact hR.1
  have hOB : opsB l = true := by unfold rightB at hR; rw [Bool.and_eq_true] at hR; exact hR.2
  obtain ⟨h0, hl⟩ := headB_len hH
  have hb := below_alloc w (.cells (blA pc words el v) 25)
  have r1 : (w.alloc (.cells (blA pc words el v) 25)).heap[w.heap.size]? = some (.cells (blA pc words el v) 25) := heap_alloc_new _ _
  have O1 := O.grow hb
  have k1 := dRight_c (words := words) (el := el) hpc O1 himm hcap
  rw [hR] at k1
  obtain ⟨ao, cap, ev⟩ := O.len
  have hcl : l.length ≤ cap := hcap _ _ _ ev
  subst ev
  have hlow : ∀ B, w.heap.size ≤ B → OpsLow (.slice ao l.length cap) B := fun B hB ra n cap' e hn => by
    obtain ⟨ra2, cap2, e2, hc⟩ := O.cell h0
    rw [e2] at e; cases e
    have := (hc 0 _ (opAt_some h0)).lt
    have e1 : (ra.add (0 * 6)).block = ra.block := by unfold Addr.add; split <;> rfl
    rw [e1] at this
    omega
  have hsz1 : w.heap.size < (w.alloc (.cells (blA pc words el (.slice ao l.length cap)) 25)).heap.size := by simp
  go_enter Tryz.func8, Tryz.ntmps8
  go_upto_region 1 with fail
  generalize w.alloc (.cells (blA pc words el (.slice ao l.length cap)) 25) = w1 at *
  go_upto_region 4 with (first | ((with_reducible refine wpList_load_if rfl 25 _ rfl _ rfl 25 _ (0, 0) _ r1 Tryz.underlying25 rfl (bl_inf _ _ _ _) ?_); simp only [Act.put, List.setIfInBounds_toArray, List.set_cons_succ, List.set_cons_zero]) | (go_at_call 6; (with_reducible refine k1.mono ?_); clear k1; rintro e w2 ⟨rfl, B2⟩; dsimp only))
  go_upto_region 5 with ((with_reducible refine wpList_words rfl rfl ?_); try simp only [Act.put])
  have hb2 := below_then hb (Nat.le_refl _) B2
  have hb3 := below_alloc w2 (.cells wordsA 9)
  have hs2 := B2.size
  have X0 : DtI w pc words el (.slice ao l.length cap) l w.heap.size w2.heap.size (w2.alloc (.cells wordsA 9)).heap.size ⟨#[]⟩ (.slice none 0 0) (w2.alloc (.cells wordsA 9)) := by
    refine ⟨?_, (O1.grow B2).grow hb3, heap_alloc_new _ _, ⟨rfl, .inl ⟨rfl, rfl⟩⟩, below_then hb2 (Nat.le_refl _) hb3, Nat.le_refl _⟩
    have hr2 : w2.heap[w.heap.size]? = some (.cells (blA pc words el (.slice ao l.length cap)) 25) := by rw [B2.block _ (lt_of_some r1)]; exact r1
    rw [hb3.block _ (lt_of_some hr2)]; exact hr2
  have hBg : w2.heap.size < (w2.alloc (.cells wordsA 9)).heap.size := by simp
  generalize w2.alloc (.cells wordsA 9) = w3 at *
  generalize hB : w3.heap.size = B at *
  generalize w2.heap.size = g at *
  have hB1 : w.heap.size < B := by omega
  have hlw := hlow B (Nat.le_of_lt hB1)
  clear hlow r1 O1 hb B2 hb2 hb3 hs2 hsz1
  go_upto_region 7 with fail
  go_loopw [6, 7] (fun s6 s7 wr => ∃ k : Nat, k ≤ l.length ∧ s7 = vI k ∧ DtI w pc words el (.slice ao l.length cap) l w.heap.size g B (docLs l k) s6 wr) (fun _ s7 _ => ((l.length : Int) - intOf s7).toNat)
  case atStart => exact ⟨0, Nat.zero_le _, rfl, X0⟩
  case round =>
    clear X0 hB
    obtain ⟨k, hk, rfl, N⟩ := hrel
    by_cases hlt : (k : Int) < l.length
    · have hkl : k < l.length := by omega
      obtain ⟨ra, cap', ev', hops⟩ := N.ops.cell h0
      cases ev'
      have A := hops k _ (opAt_some hkl)
      have z3 := N.c3
      obtain ⟨hok, hfr, hfo, hfu⟩ := fld_ok (ops_at hOB hkl)
      have hi1 := himm k
      have hi2 := himm2 k
      have hls : docLs l (k + 1) = docLs l k ++ ln5 k (opAt l k) := rfl
      have hsz := docLs_size l k
      generalize opAt l k = o at *
      have Hn := has_none wr
      go_upto_region 10 with (first | ((with_reducible refine wpList_load42 rfl _ rfl _ rfl _ A ?_); try simp only [Act.put]) | ((with_reducible refine wpList_store_new Hn rfl 27 _ _ rfl (opA o) rfl rfl (op_inf _) (by kernel_rfl) (op_one _) ?_); clear Hn; intro w4 Hn; try simp only [Act.put]))
      have N3 := N.grow Hn.below
      have L3 : LocO wr.heap.size o w4 := Hn.get List.mem_cons_self
      clear Hn hops A z3 N
      generalize wr.heap.size = t at L3 ⊢
      obtain ⟨m, hm⟩ : ∃ m : Nat, o.kind = m := ⟨o.kind.toNat, by simp only [isK, Bool.and_eq_true, decide_eq_true_eq] at hok; omega⟩
      have hm1 : 1 ≤ m ∧ m ≤ 18 := by simp only [isK, Bool.and_eq_true, decide_eq_true_eq] at hok; omega
      have hm19 : (m : Int) < 19 := by omega
      have hk64 : (k : Int) < 18446744073709551616 := by omega
      have kd := fun x => dig_c (n := (k : Int)) (by omega) hk64 x
      have hl0 : (digS (k : Int) ++ ⟨#[32]⟩) ++ nameV (m : Int) = ln0 k o := by unfold ln0; rw [hm]
      have hz0 := digS_size (k : Int)
      have hz1 : ((digS (k : Int)) ++ (⟨#[32]⟩ : ByteArray)).size ≤ 33 := by rw [ByteArray.size_append]; exact Nat.add_le_add hz0 (Nat.le_refl 1)
      have hz2 := name_size (m : Int)
      have hc1 : (digS (k : Int)).size + (⟨#[32]⟩ : ByteArray).size ≤ 100000 := by show _ + 1 ≤ _; omega
      have hc2 : ((digS (k : Int)) ++ (⟨#[32]⟩ : ByteArray)).size + (nameV (m : Int)).size ≤ 100000 := by omega
      generalize hD : digS (k : Int) = dk at *
      generalize hE : dk ++ (⟨#[32]⟩ : ByteArray) = ek at *
      generalize hFn : nameV (m : Int) = nm at *
      refine Rel.wp_region_rel Rel.Grows (fun x => DtI w pc words el (.slice (some ra) l.length cap) l w.heap.size g B (docLs l k) u6 x ∧ LocO t o x) [.inl (vI k), .inl (.int .u64 k), .inl (.string dk), .inl (.string ek), .inl (.slice (some ⟨g, 0, none⟩) 19 19), .inl (.pointer (some ⟨t, 0, none⟩)), .inl (vI m), .inl (.pointer (some ⟨g, m, none⟩)), .inl (.string nm), .inl (.string (ln0 k o)), .inl (.string (ln0 k o))] (by kernel_rfl) (by kernel_rfl) up_dt (up_dt w4 _ ⟨N3, L3⟩ (below_dr w4)) (by simp only [List.mem_cons, List.not_mem_nil, or_false]; rintro k hk; rcases hk with rfl | rfl | rfl | rfl | rfl | rfl | rfl | rfl | rfl | rfl | rfl <;> trivial) ?_
      refine ⟨fun w1 hC hF => ?_, ?_⟩
      · go_simp
        first | exact ⟨Below.refl _ _, rfl⟩ | exact Below.refl _ _
      simp only [Act.put, List.setIfInBounds_toArray, List.set_cons_succ, List.set_cons_zero]
      refine ⟨fun w1 hC hF => ?_, ?_⟩
      · go_simp
        exact ⟨Below.refl _ _, by rw [IntKind.wrap_u64]; omega⟩
      simp only [Act.put, List.setIfInBounds_toArray, List.set_cons_succ, List.set_cons_zero]
      refine ⟨fun w1 hC hF => ?_, ?_⟩
      · go_simp
        refine (kd w1).mono ?_
        rintro e w2 ⟨rfl, hb⟩
        exact ⟨rfl, hb⟩
      simp only [Act.put, List.setIfInBounds_toArray, List.set_cons_succ, List.set_cons_zero]
      refine ⟨fun w1 hC hF => ?_, ?_⟩
      · rw [exec_cat rfl _ _ rfl rfl hc1, hE]
        first | exact ⟨Below.refl _ _, rfl⟩ | exact Below.refl _ _
      simp only [Act.put, List.setIfInBounds_toArray, List.set_cons_succ, List.set_cons_zero]
      refine ⟨fun w1 hC hF => ?_, ?_⟩
      · go_simp
        first | exact ⟨Below.refl _ _, rfl⟩ | exact Below.refl _ _
      simp only [Act.put, List.setIfInBounds_toArray, List.set_cons_succ, List.set_cons_zero]
      refine ⟨fun w1 hC hF => ?_, ?_⟩
      · go_simp
        first | exact ⟨Below.refl _ _, rfl⟩ | exact Below.refl _ _
      simp only [Act.put, List.setIfInBounds_toArray, List.set_cons_succ, List.set_cons_zero]
      refine ⟨fun w1 hC hF => ?_, ?_⟩
      · have y0 := hC.2.c0
        rw [hm] at y0
        go_simp
        first | exact ⟨Below.refl _ _, rfl⟩ | exact Below.refl _ _
      simp only [Act.put, List.setIfInBounds_toArray, List.set_cons_succ, List.set_cons_zero]
      refine ⟨fun w1 hC hF => ?_, ?_⟩
      · go_simp
        first | exact ⟨Below.refl _ _, rfl⟩ | exact Below.refl _ _
      simp only [Act.put, List.setIfInBounds_toArray, List.set_cons_succ, List.set_cons_zero]
      refine ⟨fun w1 hC hF => ?_, ?_⟩
      · have y1 := hC.1.word hm1.1 hm1.2
        rw [hFn] at y1
        go_simp
        first | exact ⟨Below.refl _ _, rfl⟩ | exact Below.refl _ _
      simp only [Act.put, List.setIfInBounds_toArray, List.set_cons_succ, List.set_cons_zero]
      refine ⟨fun w1 hC hF => ?_, ?_⟩
      · rw [exec_cat rfl _ _ rfl rfl hc2, hl0]
        first | exact ⟨Below.refl _ _, rfl⟩ | exact Below.refl _ _
      simp only [Act.put, List.setIfInBounds_toArray, List.set_cons_succ, List.set_cons_zero]
      refine ⟨fun w1 hC hF => ?_, ?_⟩
      · go_simp
        first | exact ⟨Below.refl _ _, rfl⟩ | exact Below.refl _ _
      simp only [Act.put, List.setIfInBounds_toArray, List.set_cons_succ, List.set_cons_zero]
      intro w5 hC hF
      refine Rel.then_normal ?_
      obtain ⟨N5, L5⟩ := hC
      clear N3 L3 hF kd hc1 hc2 hz0 hz1 hz2 hl0 hE hD hFn
      have hln1 : Hid (ln1 k o = if hasP o.kind 1 = true then (ln0 k o ++ ⟨#[32]⟩) ++ digS o.r else ln0 k o) := rfl
      have hln2 : Hid (ln2 k o = addU (ln1 k o) (usesD o)) := rfl
      have hln3 : Hid (ln3 k o = if hasP o.kind 8 = true then (ln2 k o ++ ⟨#[32]⟩) ++ digS o.order else ln2 k o) := rfl
      have hln4 : Hid (ln4 k o = if hasP o.kind 16 = true then (ln3 k o ++ ⟨#[32]⟩) ++ digS o.imm else ln3 k o) := rfl
      have hln5 : Hid (docLs l (k + 1) = docLs l k ++ (ln4 k o ++ ⟨#[10]⟩)) := hls
      have hs0 := ln0_size k o
      have hs1 := ln1_size k o
      have hs2 := ln2_size k o
      have hs3 := ln3_size k o
      have hs4 := ln4_size k o
      clear hls
      generalize ln0 k o = a0 at *
      generalize ln1 k o = a1 at *
      generalize ln2 k o = a2 at *
      generalize ln3 k o = a3 at *
      generalize ln4 k o = a4 at *
      generalize hdl1 : docLs l (k + 1) = dl1 at *
      generalize docLs l k = dl at *
      have y0 := L5.c0
      rw [hm] at y0
      have y1 := L5.c1
      go_upto_block 2 with fail
      go_cut [9] from 40 to 100 (fun s9 wc => s9 = .string a1 ∧ DtI w pc words el (.slice (some ra) l.length cap) l w.heap.size g B dl u6 wc ∧ LocO t o wc)
      case first =>
        cases hp : hasP o.kind 1 with
        | false =>
          have hq := hln1.out
          rw [hp, if_neg (by decide)] at hq
          obtain ⟨c2, c3, c6, c7, c8, c13⟩ := (has1_no hok hp)
          rw [hm] at c2 c3 c6 c7 c8 c13
          have e2 : ((m : Int) == 2) = false := by simp only [beq_eq_false_iff_ne]; exact c2
          have e3 : ((m : Int) == 3) = false := by simp only [beq_eq_false_iff_ne]; exact c3
          have e6 : ((m : Int) == 6) = false := by simp only [beq_eq_false_iff_ne]; exact c6
          have e7 : ((m : Int) == 7) = false := by simp only [beq_eq_false_iff_ne]; exact c7
          have e8 : ((m : Int) == 8) = false := by simp only [beq_eq_false_iff_ne]; exact c8
          have e13 : ((m : Int) == 13) = false := by simp only [beq_eq_false_iff_ne]; exact c13
          clear y1 c2 c3 c6 c7 c8 c13 hln1 hln2 hln3 hln4 hln5
          go_wp2
          go_meet
          case rel => exact ⟨by rw [hq], N5, L5⟩
        | true =>
          have hq := hln1.out
          rw [hp, if_pos rfl] at hq
          obtain ⟨hr0, hr1⟩ := hfr hp
          have hr : IntKind.u64.wrap o.r = o.r := by rw [IntKind.wrap_u64]; omega
          have kr := fun x => dig_c (n := o.r) hr0 (by omega) x
          have hz := digS_size o.r
          generalize digS o.r = dr at *
          have hA1 : a0.size + (⟨#[32]⟩ : ByteArray).size ≤ 100000 := by show _ + 1 ≤ _; omega
          have hA2 : (a0 ++ (⟨#[32]⟩ : ByteArray)).size + dr.size ≤ 100000 := by rw [ByteArray.size_append]; show _ + 1 + _ ≤ _; omega
          have hcs := has1_yes hok hp
          rw [hm] at hcs
          rcases hcs with c | c | c | c | c | c
          all_goals
            go_wp2_with (first | (go_at_call 33; (with_reducible refine (kr _).mono ?_); rintro e w6 ⟨rfl, B6⟩; dsimp only; replace N5 := N5.grow B6; replace L5 := L5.grow B6; clear B6) | ((with_reducible refine wpList_cat rfl _ _ rfl _ _ rfl rfl hA1 ?_); try simp only [Act.put, List.setIfInBounds_toArray, List.set_cons_succ, List.set_cons_zero]) | ((with_reducible refine wpList_cat rfl _ _ rfl _ _ rfl rfl hA2 ?_); try simp only [Act.put, List.setIfInBounds_toArray, List.set_cons_succ, List.set_cons_zero]))
            go_meet
            case rel => exact ⟨by rw [hq], N5, L5⟩
      case rest =>
      obtain ⟨rfl, N6, L6⟩ := hcut
      clear N5 L5 y0 y1
      have ku := fun x => dUses_c o x
      have zl := L6.at_
      have hul := usesD_len o
      generalize hzs : usesD o = zs at *
      go_upto_region 20 with (first | ((with_reducible refine wpList_load42 rfl _ rfl _ rfl _ zl ?_); try simp only [Act.put]) | (go_at_call 12; (with_reducible refine (ku _).mono ?_); rintro e w6 ⟨u, rfl, Z, B6⟩; dsimp only))
      have N7 := N6.grow B6
      have L7 := L6.grow B6
      clear zl ku B6 N6 L6
      obtain ⟨uo, uc, eu⟩ := Z.len
      subst eu
      go_upto_region 21 with fail
      go_loopw [9, 11] (fun s9 s11 wq => ∃ i : Nat, i ≤ zs.length ∧ s11 = vI i ∧ s9 = .string (addU a1 (zs.take i)) ∧ DtI w pc words el (.slice (some ra) l.length cap) l w.heap.size g B dl u6 wq ∧ LocO t o wq ∧ RawI wq (.slice uo zs.length uc) zs) (fun _ s11 _ => ((zs.length : Int) - intOf s11).toNat)
      case atStart => exact ⟨0, Nat.zero_le _, rfl, rfl, N7, L7, Z⟩
      case round =>
        clear N7 L7 Z
        obtain ⟨i, hi11, rfl, rfl, N7, L7, Z⟩ := hrel
        have hasz := addU_size (zs.take i) a1
        rw [List.length_take] at hasz
        by_cases hil : (i : Int) < zs.length
        · have hil2 : i < zs.length := by omega
          obtain ⟨p, hp⟩ : ∃ p, zs[i]? = some p := ⟨zs[i], List.getElem?_eq_getElem hil2⟩
          obtain ⟨hp0, hp1⟩ := hfu p (List.mem_of_getElem? hp)
          obtain ⟨ua, uc', eu', hcu⟩ := Z.cell (by omega)
          cases eu'
          have c0 := (hcu i p hp).2
          clear hcu
          have hr : IntKind.u64.wrap p = p := by rw [IntKind.wrap_u64]; omega
          have kr := fun x => dig_c (n := p) hp0 (by omega) x
          have hz := digS_size p
          have hsn : Hid (addU a1 (zs.take (i + 1)) = (addU a1 (zs.take i) ++ ⟨#[32]⟩) ++ digS p) := by
            show addU a1 (zs.take (i + 1)) = _
            rw [List.take_add_one, hp]
            exact addU_snoc _ _ _
          generalize hs' : addU a1 (zs.take (i + 1)) = s' at *
          generalize addU a1 (zs.take i) = s0 at *
          generalize digS p = dp at *
          have hA1 : s0.size + (⟨#[32]⟩ : ByteArray).size ≤ 100000 := by show _ + 1 ≤ _; omega
          have hA2 : (s0 ++ (⟨#[32]⟩ : ByteArray)).size + dp.size ≤ 100000 := by rw [ByteArray.size_append]; show _ + 1 + _ ≤ _; omega
          go_wp2_with (first | (go_at_call 33; (with_reducible refine (kr _).mono ?_); rintro e w6 ⟨rfl, B6⟩; dsimp only; replace N7 := N7.grow B6; replace L7 := L7.grow B6; replace Z := Z.grow B6; clear B6) | ((with_reducible refine wpList_cat rfl _ _ rfl _ _ rfl rfl hA1 ?_); try simp only [Act.put, List.setIfInBounds_toArray, List.set_cons_succ, List.set_cons_zero]) | ((with_reducible refine wpList_cat rfl _ _ rfl _ _ rfl rfl hA2 ?_); try simp only [Act.put, List.setIfInBounds_toArray, List.set_cons_succ, List.set_cons_zero]))
          go_roundw
          case rel => exact ⟨i + 1, by omega, by simp, by rw [← hsn.out, hs'], N7, L7, Z⟩
          case measure => simp [intOf]; omega
        · have hie : i = zs.length := by omega
          have ha2 : addU a1 (zs.take i) = a2 := by rw [hie, List.take_length]; exact hln2.out.symm
          rw [ha2]
          clear ha2 hasz hln2 hie hfu hzs
          have ka := fun x => dAcc_c o x
          rw [acc_has hok] at ka
          have zl := L7.at_
          go_upto_region 25 with (first | ((with_reducible refine wpList_load42 rfl _ rfl _ rfl _ zl ?_); try simp only [Act.put]) | (go_at_call 34; (with_reducible refine (ka _).mono ?_); rintro e w8 ⟨rfl, B8⟩; dsimp only))
          have N8 := N7.grow B8
          have L8 := L7.grow B8
          clear N7 L7 zl ka B8 Z hil hi11 hul
          have y4 := L8.c4
          generalize hasP o.kind 8 = h8 at *
          go_upto_if 75 with fail
          go_cut [9] from 76 to 100 (fun s9 wc => s9 = .string a3 ∧ DtI w pc words el (.slice (some ra) l.length cap) l w.heap.size g B dl u6 wc ∧ LocO t o wc)
          case first =>
            cases h8 with
            | false =>
              have hq := hln3.out
              rw [if_neg (by decide)] at hq
              clear y4
              go_wp2
              go_meet
              case rel => exact ⟨by rw [hq], N8, L8⟩
            | true =>
              have hq := hln3.out
              rw [if_pos rfl] at hq
              obtain ⟨hr0, hr1⟩ := hfo rfl
              have hr : IntKind.u64.wrap o.order = o.order := by rw [IntKind.wrap_u64]; omega
              have kr := fun x => dig_c (n := o.order) hr0 (by omega) x
              have hz := digS_size o.order
              generalize digS o.order = dr at *
              have hA1 : a2.size + (⟨#[32]⟩ : ByteArray).size ≤ 100000 := by show _ + 1 ≤ _; omega
              have hA2 : (a2 ++ (⟨#[32]⟩ : ByteArray)).size + dr.size ≤ 100000 := by rw [ByteArray.size_append]; show _ + 1 + _ ≤ _; omega
              go_wp2_with (first | (go_at_call 33; (with_reducible refine (kr _).mono ?_); rintro e w6 ⟨rfl, B6⟩; dsimp only; replace N8 := N8.grow B6; replace L8 := L8.grow B6; clear B6) | ((with_reducible refine wpList_cat rfl _ _ rfl _ _ rfl rfl hA1 ?_); try simp only [Act.put, List.setIfInBounds_toArray, List.set_cons_succ, List.set_cons_zero]) | ((with_reducible refine wpList_cat rfl _ _ rfl _ _ rfl rfl hA2 ?_); try simp only [Act.put, List.setIfInBounds_toArray, List.set_cons_succ, List.set_cons_zero]))
              go_meet
              case rel => exact ⟨by rw [hq], N8, L8⟩
          case rest =>
          obtain ⟨rfl, N9, L9⟩ := hcut
          clear N8 L8 y4
          have y0 := L9.c0
          rw [hm] at y0
          have y5 := L9.c5
          go_upto_block 5 with fail
          go_cut [9] from 85 to 100 (fun s9 wc => s9 = .string a4 ∧ DtI w pc words el (.slice (some ra) l.length cap) l w.heap.size g B dl u6 wc ∧ LocO t o wc)
          case first =>
            cases hp : hasP o.kind 16 with
            | false =>
              have hq := hln4.out
              rw [hp, if_neg (by decide)] at hq
              obtain ⟨c1, c14, c15, c16, c18⟩ := (has16_no hok hp)
              rw [hm] at c1 c14 c15 c16 c18
              have e1 : ((m : Int) == 1) = false := by simp only [beq_eq_false_iff_ne]; exact c1
              have e14 : ((m : Int) == 14) = false := by simp only [beq_eq_false_iff_ne]; exact c14
              have e15 : ((m : Int) == 15) = false := by simp only [beq_eq_false_iff_ne]; exact c15
              have e16 : ((m : Int) == 16) = false := by simp only [beq_eq_false_iff_ne]; exact c16
              have e18 : ((m : Int) == 18) = false := by simp only [beq_eq_false_iff_ne]; exact c18
              clear y5 c1 c14 c15 c16 c18 hln1 hln3 hln4 hln5
              go_wp2
              go_meet
              case rel => exact ⟨by rw [hq], N9, L9⟩
            | true =>
              have hq := hln4.out
              rw [hp, if_pos rfl] at hq
              have kr := fun x => dig_c (n := o.imm) hi1 hi2 x
              have hz := digS_size o.imm
              generalize digS o.imm = dr at *
              have hA1 : a3.size + (⟨#[32]⟩ : ByteArray).size ≤ 100000 := by show _ + 1 ≤ _; omega
              have hA2 : (a3 ++ (⟨#[32]⟩ : ByteArray)).size + dr.size ≤ 100000 := by rw [ByteArray.size_append]; show _ + 1 + _ ≤ _; omega
              have hcs := has16_yes hok hp
              rw [hm] at hcs
              rcases hcs with c | c | c | c | c
              all_goals
                go_wp2_with (first | (go_at_call 33; (with_reducible refine (kr _).mono ?_); rintro e w6 ⟨rfl, B6⟩; dsimp only; replace N9 := N9.grow B6; replace L9 := L9.grow B6; clear B6) | ((with_reducible refine wpList_cat rfl _ _ rfl _ _ rfl rfl hA1 ?_); try simp only [Act.put, List.setIfInBounds_toArray, List.set_cons_succ, List.set_cons_zero]) | ((with_reducible refine wpList_cat rfl _ _ rfl _ _ rfl rfl hA2 ?_); try simp only [Act.put, List.setIfInBounds_toArray, List.set_cons_succ, List.set_cons_zero]))
                go_meet
                case rel => exact ⟨by rw [hq], N9, L9⟩
          case rest =>
          obtain ⟨rfl, N10, L10⟩ := hcut
          clear N9 L9 y0 y5
          have hA1 : a4.size + (⟨#[10]⟩ : ByteArray).size ≤ 100000 := by show _ + 1 ≤ _; omega
          have hnl : (a4 ++ (⟨#[10]⟩ : ByteArray)).size ≤ 206 := by rw [ByteArray.size_append]; show _ + 1 ≤ _; omega
          have hq5 := hln5.out
          generalize hr5 : a4 ++ (⟨#[10]⟩ : ByteArray) = a5 at *
          have hap : dl.size + a5.size ≤ 1000000 := by omega
          have hw10 := N10.hB
          clear hln1 hln3 hln4 hln5
          go_wp2_with (first | ((with_reducible refine wpList_cat rfl _ _ rfl _ _ rfl rfl hA1 ?_); (try simp only [Act.put, List.setIfInBounds_toArray, List.set_cons_succ, List.set_cons_zero]); rw [hr5]) | ((with_reducible refine wpList_appS (v := u6) (p := dl) (q := a5) rfl _ _ rfl rfl rfl N10.own hap hw10 ?_); intro v11 w11 hO11 hB11 hne11; try simp only [Act.put, List.setIfInBounds_toArray, List.set_cons_succ, List.set_cons_zero]))
          have N11 := N10.app hlw hB1 hBg (Nat.le_of_lt hB1) hO11 hB11
          rw [← hq5] at N11
          go_roundw
          case rel => exact ⟨k + 1, by omega, by simp, by first | exact N11 | (rw [hdl1]; exact N11)⟩
          case measure => simp [intOf]; omega
    · have hke : k = l.length := by omega
      subst hke
      have hcv := conv_own N.own
      have hB := N.below
      have z3 := N.c3
      go_wp2_with (simp only [hcv])
      go_ret2
      exact ⟨rfl, hB⟩
end Go.Proofs.YtccmncecpmemaaaGreatDoor
