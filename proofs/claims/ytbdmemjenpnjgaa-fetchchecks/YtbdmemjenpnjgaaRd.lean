/- The document's own: the first word that might not have been run. -/
import Derived.Test.YtbdmemjenpnjgaaRc
import Derived.Test.YtbdmemjenpnjgaaLf
import Derived.Test.YtbdmemjenpnjgaaFr
namespace Go.Proofs.Ytbdmemjenpnjgaa
open Go.RowKit
set_option linter.unusedVariables false
set_option linter.unusedSimpArgs false
set_option maxRecDepth 8000

open Go.Shelf Go.Maps
theorem slice_cap {H : Type} {enc : TypeId × Value → H} {W : World} {v : Value} {d : DataW H} {ps : List MemPlace} {zs : List Nt} (h : DataW.Trod enc Try.prog W 0 (fun _ => true) true 22 v d ps) (hv : NtsIn W v zs) : ∀ ao n cap, v = .slice ao n cap → n ≤ cap := by
  intro ao2 n2 cap2 hv2
  obtain ⟨fuel, hf⟩ := h
  rcases DataW.trod_slice Try.underlying22 hf with ⟨hcs, hx⟩ | ⟨a, len', cap', elems, rest, n, _, hcs, hx, _, hl, hm, hel, hget, _, _⟩
  · have e : v = .slice none 0 0 := by rw [hv2] at hcs ⊢; simpa [Value.cells] using hcs
    rw [hv2] at e
    cases e
    exact Nat.le_refl _
  · have e : v = .slice (some a) len' cap' := by rw [hv2] at hcs ⊢; simpa [Value.cells] using hcs
    rw [hv2] at e
    cases e
    exact hl
theorem nts_take {w : World} {ra : Addr} {cap k : Nat} {tr : List Nt} (N : Nts w (.slice (some ra) tr.length cap) tr) (hk : k ≤ tr.length) : Nts w (.slice (some ra) k cap) (tr.take k) := by
  have hl : (tr.take k).length = k := by simp; omega
  refine ⟨⟨some ra, cap, by rw [hl]⟩, by have := N.max; omega, fun h0 => ?_⟩
  obtain ⟨ra2, cap2, e, hc⟩ := N.cell (by omega)
  cases e
  refine ⟨ra, cap, by rw [hl], fun i n hn => hc i n ?_⟩
  rw [List.getElem?_take] at hn
  split at hn
  · exact hn
  · cases hn
def DcF (w3 : World) (M : List Nat) (u : Value) (W : World) : Prop := ∃ q, u = .tuple #[q, .bool true] ∧ W.ownsRow w3.heap.size 24 1 q M.length (wrdV M) ∧ Below w3.heap.size w3 W
theorem right_take {tr : List Nt} (h : rightL tr = true) (k : Nat) : rightL (tr.take k) = true := by
  unfold rightL at *
  rw [List.all_eq_true] at *
  exact fun n hn => h n (List.mem_of_mem_take hn)
theorem bad_fetch {tr : List Nt} {g : Nat → Nat} {k : Nat} {n : Nt} (hn : tr[k]? = some n) (h5 : n.kind = 5) : badAt tr g k = !(mayL (tr.take k) n.core n.addr (g n.addr)).contains n.word := by
  unfold badAt
  rw [hn]
  have : (mayL (tr.take k) n.core n.addr (g n.addr)).contains n.word = ((vers (tr.take k) n.addr (g n.addr)).drop (au (tr.take k) n.core n.addr).lost).contains n.word := by
    rw [Bool.eq_iff_iff]
    simp only [List.contains_eq_mem, decide_eq_true_eq]
    exact mayL_mem _ _ _ _ _
  rw [this]
  simp [h5]
theorem may_fetch {tr : List Nt} {k : Nat} {n : Nt} (hr : rightL tr = true) (hn : tr[k]? = some n) (h5 : n.kind = 5) : mayOk (tr.take k) n.core n.addr = true := by
  have hw := List.all_eq_true.1 hr n (List.mem_of_getElem? hn)
  unfold mayOk
  rw [right_take hr]
  simp [wrongB, h5] at hw
  simp [hw]
def frst (tr : List Nt) (g : Nat → Nat) : List Nat := tr.map fun n => g n.addr
set_option maxHeartbeats 2000000 in
theorem docCheck_c {tr : List Nt} {v uF : Value} {g : Nat → Nat} {w : World} (N : Nts w v tr) (ok : TrOk tr) (hcap : ∀ ao n cap, v = .slice ao n cap → n ≤ cap) (hg : ∀ a, g a < 4294967296) (WF : Wds w uF (frst tr g)) : Calls Try.prog 14 #[v, uF] w fun e w' => e = .returned (.tuple #[vI (if rightL tr then checkL tr g else 0), .bool (rightL tr)]) ∧ Below w.heap.size w w' := by
  have k1 := docRight_c N ok
  obtain ⟨ao, cap, ev⟩ := N.len
  subst ev
  have hcp := hcap _ _ _ rfl
  obtain ⟨aF, cF, ev⟩ := WF.len
  subst ev
  have hfl : (frst tr g).length = tr.length := by simp [frst]
  rw [hfl] at WF ⊢
  replace hfl : Hid ((frst tr g).length = tr.length) := hfl
  have hmax := N.max
  cases hr : rightL tr with
  | false =>
    rw [hr] at k1
    go_enter Try.func14, Try.ntmps14
    go_wp2_with (go_at_call 21; (with_reducible refine k1.mono ?_); clear k1; rintro e w2 ⟨rfl, hB⟩; dsimp only)
    go_ret2
    exact ⟨rfl, hB⟩
  | true =>
    rw [hr] at k1
    rw [if_pos rfl]
    go_enter Try.func14, Try.ntmps14
    go_wp2_with (go_at_call 21; (with_reducible refine k1.mono ?_); clear k1; rintro e w2 ⟨rfl, hB0⟩; dsimp only)
    go_loopw [7] (fun s7 wr => Below w.heap.size w wr ∧ ∃ k : Nat, k ≤ tr.length ∧ s7 = vI k ∧ ∀ j, j < k → badAt tr g j = false) (fun s7 _ => ((tr.length : Int) - intOf s7).toNat)
    case atStart => exact ⟨hB0, 0, Nat.zero_le _, rfl, fun j hj => absurd hj (Nat.not_lt_zero _)⟩
    case round =>
      obtain ⟨hB, k, hk, rfl, hno⟩ := hrel
      clear hB0
      by_cases hlt : (k : Int) < tr.length
      · have hkl : k < tr.length := by omega
        obtain ⟨n, hn⟩ : ∃ n, tr[k]? = some n := ⟨tr[k], List.getElem?_eq_getElem hkl⟩
        have okn := ok n (List.mem_of_getElem? hn)
        obtain ⟨ra, cap', ev', hc⟩ := (N.low hB.size fun b hb => hB.block b hb).cell (by omega)
        cases ev'
        obtain ⟨_, c0, c1, c2, c3⟩ := hc k n hn
        obtain ⟨gf, of, cf, ef, hgf, hcf0⟩ := WF.cell (by rw [hfl.out]; omega)
        rw [hfl.out] at ef
        cases ef
        have hcf : w.cell? ⟨gf, of + k, none⟩ = some (v32 (g n.addr)) := hcf0 k _ (by simp [frst, hn])
        clear hc hcf0
        have B3 := below_then hB (Nat.le_refl _) (below_alloc wr (.cells (ntA n) 34))
        go_upto_region 8 with fail
        have L3 := LocN.new wr n
        obtain ⟨t, ht⟩ : ∃ t, t = wr.heap.size := ⟨_, rfl⟩
        rw [← ht] at L3
        rw [← ht]
        generalize wr.alloc (Obj.cells _ 34) = w3 at *
        clear ht c0 c1 c2 c3
        have hgf3 : gf < w3.heap.size := Nat.lt_of_lt_of_le hgf B3.size
        have hcf3 := (B3.cell (p := ⟨gf, of + k, none⟩) hgf).trans hcf
        by_cases h5 : n.kind = 5
        · have hbad := bad_fetch (g := g) hn h5
          have hm := may_fetch hr hn h5
          have hM1 := mayL_len (tr.take k) n.core n.addr (g n.addr)
          rw [List.length_take, Nat.min_eq_left (by omega)] at hM1
          have kM : ∀ W, Below w3.heap.size w3 W → Calls Try.prog 9 #[.slice (some ra) k cap, vI n.core, vU n.addr, v32 (g n.addr)] W fun e w' => ∃ u, e = .returned u ∧ DcF w3 (mayL (tr.take k) n.core n.addr (g n.addr)) u w' := fun W hBW => by
            have BW := B3.trans (hBW.mono B3.size)
            refine (docMay_ok (nts_take (N.low BW.size fun b hb => BW.block b hb) (by omega)) (fun m hm => ok m (List.mem_of_mem_take hm)) okn.addr (hg _) hm).mono ?_
            rintro e w' ⟨u, rfl, R, B⟩
            exact ⟨_, rfl, u, rfl, own_mono R hBW.size, hBW.trans (B.mono hBW.size)⟩
          obtain ⟨M, hM⟩ : ∃ M, mayL (tr.take k) n.core n.addr (g n.addr) = M := ⟨_, rfl⟩
          rw [hM] at kM hbad hM1
          clear hM hm
          have hkc : k ≤ cap := by omega
          have d0 := L3.c0
          rw [h5] at d0
          replace h5 : Hid (n.kind = 5) := h5
          replace hbad : Hid (badAt tr g k = !M.contains n.word) := hbad
          go_upto_region 9 with fail
          clear d0
          refine RelJ.wp_region_callP [] 11 (fun _ W => Below w3.heap.size w3 W) (DcF w3 M) (fun u => [.slice (some ra) tr.length cap, vI k, .slice (some ra) k cap, ptr t 1, vI n.core, ptr t 2, vU n.addr, .slice (some ⟨gf, of, none⟩) tr.length cF, vI k, ptr gf (of + k), v32 (g n.addr), u, u, tupAt u 0, tupAt u 1, tupAt u 0, tupAt u 1]) (by kernel_rfl) (by kernel_rfl) (by kernel_rfl) (by kernel_rfl) (by decide) (fun v q hq => by match q, hq with | 0, _ => rfl | 1, _ => rfl | 2, _ => rfl | 3, _ => rfl | 4, _ => rfl | 5, _ => rfl | 6, _ => rfl | 7, _ => rfl | 8, _ => rfl | 9, _ => rfl | 10, _ => rfl | n + 11, hq => exact absurd hq (by omega)) (fun v => rfl) (fun v => rfl) (Rel.below_draws (n := 1) (Below.refl _ _)) ?_
          intro u
          refine ⟨by
            unfold RelJ.opP; rw [if_neg (by decide), if_pos (by decide), if_neg (by decide)]; intro w1 hC
            exact Chn.upon_pure (C := fun z => z = w1) rfl (fun F hF => by (go_simp <;> exact hF)), ?_⟩
          simp only [Act.put, List.setIfInBounds_toArray, List.set_cons_succ, List.set_cons_zero]
          refine ⟨by
            unfold RelJ.opP; rw [if_neg (by decide), if_pos (by decide), if_neg (by decide)]; intro w1 hC
            exact Chn.upon_pure (C := fun z => z = w1) rfl (fun F hF => by (go_simp <;> exact hF)), ?_⟩
          simp only [Act.put, List.setIfInBounds_toArray, List.set_cons_succ, List.set_cons_zero]
          refine ⟨by
            unfold RelJ.opP; rw [if_neg (by decide), if_pos (by decide), if_neg (by decide)]; intro w1 hC
            exact Chn.upon_pure (C := fun z => z = w1) rfl (fun F hF => by (go_simp <;> exact hF)), ?_⟩
          simp only [Act.put, List.setIfInBounds_toArray, List.set_cons_succ, List.set_cons_zero]
          refine ⟨by
            unfold RelJ.opP; rw [if_neg (by decide), if_pos (by decide), if_neg (by decide)]; intro w1 hC
            exact Chn.upon_pure (C := fun z => z = w1) rfl (fun F hF => by (go_simp <;> exact hF)), ?_⟩
          simp only [Act.put, List.setIfInBounds_toArray, List.set_cons_succ, List.set_cons_zero]
          refine ⟨by
            unfold RelJ.opP; rw [if_neg (by decide), if_pos (by decide), if_neg (by decide)]; intro w1 hC
            have B1 : Below w3.heap.size w3 w1 := by
              rcases hC with ⟨j, hC⟩ | ⟨u2, q, _, _, hC⟩ <;> exact hC
            have z := (L3.grow B1).c1
            exact Chn.upon_pure (C := fun z => z = w1) rfl (fun F hF => by (go_simp <;> exact hF)), ?_⟩
          simp only [Act.put, List.setIfInBounds_toArray, List.set_cons_succ, List.set_cons_zero]
          refine ⟨by
            unfold RelJ.opP; rw [if_neg (by decide), if_pos (by decide), if_neg (by decide)]; intro w1 hC
            exact Chn.upon_pure (C := fun z => z = w1) rfl (fun F hF => by (go_simp <;> exact hF)), ?_⟩
          simp only [Act.put, List.setIfInBounds_toArray, List.set_cons_succ, List.set_cons_zero]
          refine ⟨by
            unfold RelJ.opP; rw [if_neg (by decide), if_pos (by decide), if_neg (by decide)]; intro w1 hC
            have B1 : Below w3.heap.size w3 w1 := by
              rcases hC with ⟨j, hC⟩ | ⟨u2, q, _, _, hC⟩ <;> exact hC
            have z := (L3.grow B1).c2
            exact Chn.upon_pure (C := fun z => z = w1) rfl (fun F hF => by (go_simp <;> exact hF)), ?_⟩
          simp only [Act.put, List.setIfInBounds_toArray, List.set_cons_succ, List.set_cons_zero]
          refine ⟨by
            unfold RelJ.opP; rw [if_neg (by decide), if_pos (by decide), if_neg (by decide)]; intro w1 hC
            exact Chn.upon_pure (C := fun z => z = w1) rfl (fun F hF => by (go_simp <;> exact hF)), ?_⟩
          simp only [Act.put, List.setIfInBounds_toArray, List.set_cons_succ, List.set_cons_zero]
          refine ⟨by
            unfold RelJ.opP; rw [if_neg (by decide), if_pos (by decide), if_neg (by decide)]; intro w1 hC
            exact Chn.upon_pure (C := fun z => z = w1) rfl (fun F hF => by (go_simp <;> exact hF)), ?_⟩
          simp only [Act.put, List.setIfInBounds_toArray, List.set_cons_succ, List.set_cons_zero]
          refine ⟨by
            unfold RelJ.opP; rw [if_neg (by decide), if_pos (by decide), if_neg (by decide)]; intro w1 hC
            exact Chn.upon_pure (C := fun z => z = w1) rfl (fun F hF => by (go_simp <;> exact hF)), ?_⟩
          simp only [Act.put, List.setIfInBounds_toArray, List.set_cons_succ, List.set_cons_zero]
          refine ⟨by
            unfold RelJ.opP; rw [if_neg (by decide), if_pos (by decide), if_neg (by decide)]; intro w1 hC
            have B1 : Below w3.heap.size w3 w1 := by
              rcases hC with ⟨j, hC⟩ | ⟨u2, q, _, _, hC⟩ <;> exact hC
            have z := (B1.cell (p := ⟨gf, of + k, none⟩) hgf3).trans hcf3
            exact Chn.upon_pure (C := fun z => z = w1) rfl (fun F hF => by (go_simp <;> exact hF)), ?_⟩
          simp only [Act.put, List.setIfInBounds_toArray, List.set_cons_succ, List.set_cons_zero]
          refine ⟨by
            unfold RelJ.opP; rw [if_pos rfl]; intro w1 hC
            exact upon_of_call (kM w1 hC) (fun e2 w2 hh => hh) (fun F2 hF2 => by (go_simp <;> exact hF2)), ?_⟩
          simp only [Act.put, List.setIfInBounds_toArray, List.set_cons_succ, List.set_cons_zero]
          refine ⟨by unfold RelJ.opP; rw [if_neg (by decide), if_neg (by decide)]; rintro w1 ⟨q, rfl, hC⟩; exact Chn.upon_pure (C := fun z => z = w1) rfl (fun F hF => by (go_simp <;> exact hF)), ?_⟩
          simp only [Act.put, List.setIfInBounds_toArray, List.set_cons_succ, List.set_cons_zero]
          refine ⟨by unfold RelJ.opP; rw [if_neg (by decide), if_neg (by decide)]; rintro w1 ⟨q, rfl, hC⟩; exact Chn.upon_pure (C := fun z => z = w1) rfl (fun F hF => by (go_simp <;> exact hF)), ?_⟩
          simp only [Act.put, List.setIfInBounds_toArray, List.set_cons_succ, List.set_cons_zero]
          refine ⟨by unfold RelJ.opP; rw [if_neg (by decide), if_neg (by decide)]; rintro w1 ⟨q, rfl, hC⟩; exact Chn.upon_pure (C := fun z => z = w1) rfl (fun F hF => by (go_simp <;> exact hF)), ?_⟩
          simp only [Act.put, List.setIfInBounds_toArray, List.set_cons_succ, List.set_cons_zero]
          refine ⟨by unfold RelJ.opP; rw [if_neg (by decide), if_neg (by decide)]; rintro w1 ⟨q, rfl, hC⟩; exact Chn.upon_pure (C := fun z => z = w1) rfl (fun F hF => by (go_simp <;> exact hF)), ?_⟩
          simp only [Act.put, List.setIfInBounds_toArray, List.set_cons_succ, List.set_cons_zero]
          refine ⟨by unfold RelJ.opP; rw [if_neg (by decide), if_neg (by decide)]; rintro w1 ⟨q, rfl, hC⟩; exact Chn.upon_pure (C := fun z => z = w1) rfl (fun F hF => by (go_simp <;> exact hF)), ?_⟩
          simp only [Act.put, List.setIfInBounds_toArray, List.set_cons_succ, List.set_cons_zero]
          intro w4 hC
          obtain ⟨ql, rfl, Rl, B4⟩ := hC
          simp only [tupAt]
          have L4 := L3.grow B4
          have B04 : Below w.heap.size w w4 := B3.trans (B4.mono B3.size)
          obtain ⟨aO, cO, eO, _⟩ := own_len Rl
          subst eO
          have hcO : 0 < M.length → ∃ go co, Value.slice aO M.length cO = .slice (some ⟨go, 0, none⟩) M.length co ∧ go < w4.heap.size ∧ ∀ (i y : Nat), M[i]? = some y → w4.cell? ⟨go, i, none⟩ = some (v32 y) := fun h0 => by
            obtain ⟨gz, cz, ez, _, _, hgz, hcz0, _⟩ := own_addr Rl h0
            refine ⟨gz, cz, ez, hgz, fun i y hy => ?_⟩
            rw [hcz0 i (by have := (List.getElem?_eq_some_iff.1 hy).1; omega)]
            simp [hy]
          clear Rl kM L3 B4 hgf3 hcf3
          go_wp2
          go_loopw [11, 12] (fun s11 s12 wq => Below w4.heap.size w4 wq ∧ ∃ q : Nat, q ≤ M.length ∧ s12 = vI q ∧ s11 = .bool ((M.take q).contains n.word)) (fun _ s12 _ => ((M.length : Int) - intOf s12).toNat)
          case atStart => exact ⟨Below.refl _ _, 0, Nat.zero_le _, rfl, by simp⟩
          case round =>
            obtain ⟨hBq, q, hq, rfl, rfl⟩ := hrel
            by_cases hql : (q : Int) < M.length
            · obtain ⟨y, hy⟩ : ∃ y, M[q]? = some y := ⟨M[q]'(by omega), List.getElem?_eq_getElem (by omega)⟩
              obtain ⟨go, co, eo, hgo, hco⟩ := hcO (by omega)
              cases eo
              have hcy := hco q y hy
              have hst2 : (M.take (q + 1)).contains n.word = ((M.take q).contains n.word || ((y : Int) == (n.word : Int))) := by
                rw [List.take_add_one, hy]
                by_cases e : y = n.word
                · subst e; simp
                · rw [beq_eq_false_iff_ne.2 (by omega : (y : Int) ≠ (n.word : Int))]; simp [Ne.symm e]
              clear hco hcO hy
              cases hb : (M.take q).contains n.word with
              | true =>
                have hb2 : (M.take (q + 1)).contains n.word = true := by rw [hst2, hb]; rfl
                replace hb2 : Hid ((M.take (q + 1)).contains n.word = true) := hb2
                clear hst2 hb
                go_upto_region 14 with fail
                have hst : (fun (_ : Nat) (W : World) => Below w4.heap.size w4 W) 0 _ := hBq.trans ((Rel.below_draws (n := 1) (Below.refl _ _)).mono hBq.size)
                refine Chg.wp_region_chainG (fun (_ : Nat) (W : World) => Below w4.heap.size w4 W) [] [0, 0, 0, 0, 0, 0, 0, 0, 0, 0, 0] [.bool true, .bool true, undef, undef, undef, undef, undef, undef, undef, .bool true, .bool true] (by kernel_rfl) (by kernel_rfl) (by kernel_rfl) (by kernel_rfl) (by kernel_rfl) hst ?_
                clear hst
                refine ⟨fun j w1 hj hC => Chg.uponW_yes (by rfl) (by exact Chn.upon_pure hC (fun F hF => by (go_simp <;> exact hF))), ?_⟩
                simp only [Act.put, List.setIfInBounds_toArray, List.set_cons_succ, List.set_cons_zero]
                refine ⟨fun j w1 hj hC => Chg.uponW_yes (by rfl) (by exact Chn.upon_pure hC (fun F hF => by (go_simp <;> exact hF))), ?_⟩
                simp only [Act.put, List.setIfInBounds_toArray, List.set_cons_succ, List.set_cons_zero]
                refine ⟨fun j w1 hj hC => Chg.uponW_no (by rfl) ⟨rfl, hC⟩, ?_⟩
                simp only [Act.put, List.setIfInBounds_toArray, List.set_cons_succ, List.set_cons_zero]
                refine ⟨fun j w1 hj hC => Chg.uponW_no (by rfl) ⟨rfl, hC⟩, ?_⟩
                simp only [Act.put, List.setIfInBounds_toArray, List.set_cons_succ, List.set_cons_zero]
                refine ⟨fun j w1 hj hC => Chg.uponW_no (by rfl) ⟨rfl, hC⟩, ?_⟩
                simp only [Act.put, List.setIfInBounds_toArray, List.set_cons_succ, List.set_cons_zero]
                refine ⟨fun j w1 hj hC => Chg.uponW_no (by rfl) ⟨rfl, hC⟩, ?_⟩
                simp only [Act.put, List.setIfInBounds_toArray, List.set_cons_succ, List.set_cons_zero]
                refine ⟨fun j w1 hj hC => Chg.uponW_no (by rfl) ⟨rfl, hC⟩, ?_⟩
                simp only [Act.put, List.setIfInBounds_toArray, List.set_cons_succ, List.set_cons_zero]
                refine ⟨fun j w1 hj hC => Chg.uponW_no (by rfl) ⟨rfl, hC⟩, ?_⟩
                simp only [Act.put, List.setIfInBounds_toArray, List.set_cons_succ, List.set_cons_zero]
                refine ⟨fun j w1 hj hC => Chg.uponW_no (by rfl) ⟨rfl, hC⟩, ?_⟩
                simp only [Act.put, List.setIfInBounds_toArray, List.set_cons_succ, List.set_cons_zero]
                refine ⟨fun j w1 hj hC => Chg.uponW_yes (by rfl) (by exact Chn.upon_pure hC (fun F hF => by (go_simp <;> exact hF))), ?_⟩
                simp only [Act.put, List.setIfInBounds_toArray, List.set_cons_succ, List.set_cons_zero]
                refine ⟨fun j w1 hj hC => Chg.uponW_yes (by rfl) (by exact Chn.upon_pure hC (fun F hF => by (go_simp <;> exact hF))), ?_⟩
                simp only [Act.put, List.setIfInBounds_toArray, List.set_cons_succ, List.set_cons_zero]
                intro w5 hC
                go_wp2
                go_roundw
                case rel => exact ⟨hC, q + 1, by omega, by simp, by rw [hb2.out]⟩
                case measure => simp [intOf]; omega
              | false =>
                have hb2 : (M.take (q + 1)).contains n.word = ((y : Int) == (n.word : Int)) := by rw [hst2, hb]; rfl
                replace hb2 : Hid ((M.take (q + 1)).contains n.word = ((y : Int) == (n.word : Int))) := hb2
                clear hst2 hb
                go_upto_region 14 with fail
                have hst : (fun (_ : Nat) (W : World) => Below w4.heap.size w4 W) 0 _ := hBq.trans ((Rel.below_draws (n := 1) (Below.refl _ _)).mono hBq.size)
                refine Chg.wp_region_chainG (fun (_ : Nat) (W : World) => Below w4.heap.size w4 W) [] [0, 0, 0, 0, 0, 0, 0, 0, 0, 0, 0] [.bool false, .bool false, .slice (some ⟨go, 0, none⟩) M.length cO, vI q, ptr go q, v32 y, ptr t 3, v32 n.word, .bool ((y : Int) == (n.word : Int)), .bool ((y : Int) == (n.word : Int)), .bool ((y : Int) == (n.word : Int))] (by kernel_rfl) (by kernel_rfl) (by kernel_rfl) (by kernel_rfl) (by kernel_rfl) hst ?_
                clear hst
                refine ⟨fun j w1 hj hC => Chg.uponW_yes (by rfl) (by exact Chn.upon_pure hC (fun F hF => by (go_simp <;> exact hF))), ?_⟩
                simp only [Act.put, List.setIfInBounds_toArray, List.set_cons_succ, List.set_cons_zero]
                refine ⟨fun j w1 hj hC => Chg.uponW_yes (by rfl) (by exact Chn.upon_pure hC (fun F hF => by (go_simp <;> exact hF))), ?_⟩
                simp only [Act.put, List.setIfInBounds_toArray, List.set_cons_succ, List.set_cons_zero]
                refine ⟨fun j w1 hj hC => Chg.uponW_yes (by rfl) (by exact Chn.upon_pure hC (fun F hF => by (go_simp <;> exact hF))), ?_⟩
                simp only [Act.put, List.setIfInBounds_toArray, List.set_cons_succ, List.set_cons_zero]
                refine ⟨fun j w1 hj hC => Chg.uponW_yes (by rfl) (by exact Chn.upon_pure hC (fun F hF => by (go_simp <;> exact hF))), ?_⟩
                simp only [Act.put, List.setIfInBounds_toArray, List.set_cons_succ, List.set_cons_zero]
                refine ⟨fun j w1 hj hC => Chg.uponW_yes (by rfl) (by exact Chn.upon_pure hC (fun F hF => by (go_simp <;> exact hF))), ?_⟩
                simp only [Act.put, List.setIfInBounds_toArray, List.set_cons_succ, List.set_cons_zero]
                refine ⟨fun j w1 hj hC => Chg.uponW_yes (by rfl) (by
                  have z := (hC.cell (p := ⟨go, q, none⟩) hgo).trans hcy
                  exact Chn.upon_pure hC (fun F hF => by (go_simp <;> exact hF))), ?_⟩
                simp only [Act.put, List.setIfInBounds_toArray, List.set_cons_succ, List.set_cons_zero]
                refine ⟨fun j w1 hj hC => Chg.uponW_yes (by rfl) (by exact Chn.upon_pure hC (fun F hF => by (go_simp <;> exact hF))), ?_⟩
                simp only [Act.put, List.setIfInBounds_toArray, List.set_cons_succ, List.set_cons_zero]
                refine ⟨fun j w1 hj hC => Chg.uponW_yes (by rfl) (by
                  have z := (L4.grow hC).c3
                  exact Chn.upon_pure hC (fun F hF => by (go_simp <;> exact hF))), ?_⟩
                simp only [Act.put, List.setIfInBounds_toArray, List.set_cons_succ, List.set_cons_zero]
                refine ⟨fun j w1 hj hC => Chg.uponW_yes (by rfl) (by exact Chn.upon_pure hC (fun F hF => by (go_simp <;> exact hF))), ?_⟩
                simp only [Act.put, List.setIfInBounds_toArray, List.set_cons_succ, List.set_cons_zero]
                refine ⟨fun j w1 hj hC => Chg.uponW_yes (by rfl) (by exact Chn.upon_pure hC (fun F hF => by (go_simp <;> exact hF))), ?_⟩
                simp only [Act.put, List.setIfInBounds_toArray, List.set_cons_succ, List.set_cons_zero]
                refine ⟨fun j w1 hj hC => Chg.uponW_yes (by rfl) (by exact Chn.upon_pure hC (fun F hF => by (go_simp <;> exact hF))), ?_⟩
                simp only [Act.put, List.setIfInBounds_toArray, List.set_cons_succ, List.set_cons_zero]
                intro w5 hC
                go_wp2
                go_roundw
                case rel => exact ⟨hC, q + 1, by omega, by simp, by rw [hb2.out]⟩
                case measure => simp [intOf]; omega
            · have ej : q = M.length := by omega
              rw [ej, List.take_length]
              clear ej hcO
              cases hb : M.contains n.word with
              | true =>
                have hb2 := hbad.out
                rw [hb] at hb2
                replace hb2 : Hid (badAt tr g k = !true) := hb2
                clear hbad hb
                go_wp2
                go_roundw
                case rel =>
                  refine ⟨B04.trans (hBq.mono B04.size), k + 1, by omega, by simp, fun j hj => ?_⟩
                  by_cases e : j = k
                  · rw [e]; exact hb2.out
                  · exact hno j (by omega)
                case measure => simp [intOf]; omega
              | false =>
                have hb2 := hbad.out
                rw [hb] at hb2
                have hres : checkL tr g = k := firstB_yes _ _ _ k (Nat.zero_le _) (by omega) hb2 (fun j _ hj => hno j hj)
                replace hres : Hid (checkL tr g = k) := hres
                clear hbad hb hb2 hno
                go_wp2
                go_ret2
                exact ⟨by rw [hres.out]; rfl, B04.trans (hBq.mono B04.size)⟩
        · have g5 : ((n.kind : Int) != 5) = true := bne_iff_ne.2 h5
          have hb2 : badAt tr g k = false := by unfold badAt; rw [hn]; simp [h5]
          replace hb2 : Hid (badAt tr g k = false) := hb2
          have d0 := L3.c0
          clear h5
          go_wp2
          go_roundw
          case rel =>
            refine ⟨B3, k + 1, by omega, by simp, fun j hj => ?_⟩
            by_cases e : j = k
            · rw [e]; exact hb2.out
            · exact hno j (by omega)
          case measure => simp [intOf]; omega
      · have hres : checkL tr g = -1 := firstB_no _ _ _ (fun j _ hj => hno j (by omega))
        replace hres : Hid (checkL tr g = -1) := hres
        clear hno
        go_wp2
        go_ret2
        exact ⟨by rw [hres.out]; rfl, hB⟩
end Go.Proofs.Ytbdmemjenpnjgaa
