/- FetchMays: the walk. -/
import Derived.Test.YtbdmemjenpnjgaaRc
import Derived.Test.YtbdmemjenpnjgaaLd
namespace Go.Proofs.Ytbdmemjenpnjgaa
open Go.RowKit
set_option linter.unusedVariables false
set_option linter.unusedSimpArgs false
set_option maxRecDepth 8000

open Go.Shelf Go.Maps
theorem docMay_all {tr : List Nt} {v : Value} {c : Int} {a f : Nat} {w : World} (N : Nts w v tr) (ok : TrOk tr) (ha : a < 18446744073709551616) (hf : f < 4294967296) : Calls Try.prog 9 #[v, vI c, vU a, v32 f] w fun e w' => DocR w (mayW tr c a f) (mayOk tr c a) e w' := by
  unfold mayW
  cases h : mayOk tr c a with
  | false => exact docMay_no N ok ha h
  | true => exact docMay_ok N ok ha hf h
theorem mayW_len (tr : List Nt) (c : Int) (a f : Nat) : (mayW tr c a f).length ≤ tr.length + 1 := by
  unfold mayW
  split
  · exact mayL_len _ _ _ _
  · exact Nat.zero_le _
/-- A row of words, whatever they are. -/
def RowZ (g m : Nat) (W : World) : Prop := ∃ cs : Array Value, W.heap[g]? = some (.cells cs 24) ∧ ∀ i, i < m → ∃ z : Int, cs[i]? = some (v32 z)
theorem RowZ.set {g m q : Nat} {W : World} (h : RowZ g m W) (z : Int) : RowZ g m (W.setCell ⟨g, q, none⟩ (v32 z)) := by
  obtain ⟨cs, h1, h2⟩ := h
  refine ⟨_, heap_setCell_same W g q _ 24 _ h1, fun i hi => ?_⟩
  obtain ⟨z2, hz2⟩ := h2 i hi
  by_cases e : q = i
  · subst e
    have hlt := (Array.getElem?_eq_some_iff.1 hz2).1
    exact ⟨z, by simp [hlt]⟩
  · exact ⟨z2, by simp [e, hz2]⟩
theorem RowZ.of {w : World} {base : Nat} {v : Value} {l : List Nat} (h : w.ownsRow base 24 1 v l.length (wrdV l)) : v.ownBlock = none ∧ l.length = 0 ∨ ∃ g cap, v = .slice (some ⟨g, 0, none⟩) l.length cap ∧ base ≤ g ∧ RowZ g l.length w := by
  by_cases h0 : l.length = 0
  · rcases h.2 with ⟨h1, _⟩ | ⟨g, cap, cs, h1, h2, h3, h4, h5, h6, h7⟩
    · exact .inl ⟨by rw [h1]; rfl, h0⟩
    · exact .inr ⟨g, cap, h1, h2, cs, h3, fun i hi => by omega⟩
  · rcases h.2 with ⟨h1, h8⟩ | ⟨g, cap, cs, h1, h2, h3, h4, h5, h6, h7⟩
    · exact absurd h8 h0
    · refine .inr ⟨g, cap, h1, h2, cs, h3, fun i hi => ?_⟩
      have hw : (wrdV l)[i]? = some (v32 (l[i]'hi : Nat)) := by simp [hi]
      rw [← h7, List.getElem?_take] at hw
      refine ⟨((l[i]'hi : Nat) : Int), ?_⟩
      have h8 : i < l.length * 1 := by omega
      rw [if_pos h8] at hw
      simpa using hw
set_option maxHeartbeats 2000000 in
theorem mays_walk {tr : List Nt} {v0 : Value} {c : Int} {a f : Nat} {w : World} (N : Nts w v0 tr) (ok : TrOk tr) (ha : a < 18446744073709551616) (hf : f < 4294967296) : Calls Try.prog 3 #[v0, vI c, vU a, v32 f] w fun e w' => e = .returned (.bool true) ∧ Below w.heap.size w w' := by
  have ke := examples_c w
  have kD := fun (W : World) (B : Below w.heap.size w W) => docMay_all (f := f) (c := c) (a := a) (N.grow B) ok ha hf
  have hmax := N.max
  have hW := mayW_len tr c a f
  obtain ⟨ao, cap, ev⟩ := N.len
  subst ev
  go_enter Try.func3, Try.ntmps3
  go_upto_region 4 with (first
    | (go_at_call 8; (with_reducible refine ke.mono ?_); clear ke; rintro e w1 ⟨rfl, B1⟩; dsimp only; have N1 := N.grow B1)
    | (at_builtin; refine wpList_copyN rfl _ _ rfl rfl rfl N1 ?_; intro vo w2 RO B2; simp only [Act.put, List.setIfInBounds_toArray, List.set_cons_succ, List.set_cons_zero]; have k1 := kD w2 (below_then B1 (Nat.le_refl _) B2); clear kD)
    | (go_at_call 9; (with_reducible refine k1.mono ?_); clear k1; rintro e w3 ⟨uW, rfl, RW, B3⟩; dsimp only))
  have low3 : Below w.heap.size w w3 := below_then (below_then B1 (Nat.le_refl _) B2) (Nat.le_refl _) B3
  have RO3 := own_grow RO B3
  have WW3 := wds_of_own RW (by omega)
  clear RO RW B1 B2 B3 N1
  obtain ⟨aO, cO, eO, _⟩ := own_len RO3
  subst eO
  have kM := fun (W : World) (B : Below w3.heap.size w3 W) => may_all (f := f) (c := c) (a := a) (own_nts (own_grow RO3 B) hmax) ok ha hf
  have kS := fun (W : World) (u : Value) (B : Below w3.heap.size w3 W) (H : Wds W u (mayW tr c a f)) => same_c H (WW3.grow B)
  obtain ⟨M, hM⟩ : ∃ M, mayW tr c a f = M := ⟨_, rfl⟩
  rw [hM] at hW WW3
  simp only [hM] at kM kS
  obtain ⟨aW, cW, eW⟩ := WW3.len
  subst eW
  simp only [decide_true] at kS
  clear hM
  unfold mayE at kM
  obtain ⟨b, hb⟩ : ∃ b, mayOk tr c a = b := ⟨_, rfl⟩
  rw [hb]
  simp only [hb] at kM
  clear hb
  go_wp2
  go_loopw [13] (fun s13 wq => Below w3.heap.size w3 wq ∧ ∃ k : Nat, k ≤ 2 ∧ s13 = vI k) (fun s13 _ => ((2 : Int) - intOf s13).toNat)
  case atStart => exact ⟨Below.refl _ _, 0, Nat.zero_le _, rfl⟩
  case round =>
    obtain ⟨hB, k, hk, rfl⟩ := hrel
    obtain ⟨w4, hw4⟩ : ∃ w4, w4 = wr := ⟨_, rfl⟩
    subst hw4
    by_cases hlt : (k : Int) < 2
    · have k1 := kM w4 hB
      clear kM
      cases b with
      | true => 
        simp only [if_true, Bool.false_eq_true, if_false] at k1
        go_upto_region 8 with (go_at_call 10; (with_reducible refine k1.mono ?_); clear k1; rintro e w5 ⟨uL, rfl, RL, B5⟩; dsimp only)
        have k2 := kS w5 uL (hB.trans (B5.mono hB.size)) (wds_of_own RL (by omega))
        clear kS
        have hz := RowZ.of RL
        obtain ⟨aL, cL, eL, _⟩ := own_len RL
        subst eL
        go_upto_region 12 with (go_at_call 11; (with_reducible refine k2.mono ?_); clear k2; rintro e w6 ⟨rfl, B6⟩; dsimp only)
        have B46 : Below w4.heap.size w4 w6 := B5.trans (B6.mono B5.size)
        have hz6 : M.length = 0 ∨ ∃ g cap, Value.slice aL M.length cL = .slice (some ⟨g, 0, none⟩) M.length cap ∧ w4.heap.size ≤ g ∧ RowZ g M.length w6 := by
          rcases hz with ⟨_, h⟩ | ⟨g, cap, e1, e2, cs, h3, h4⟩
          · exact .inl h
          · exact .inr ⟨g, cap, e1, e2, cs, by rw [B6.block g (lt_of_some h3)]; exact h3, h4⟩
        clear hz RL B5 B6
        go_loopw [17] (fun s17 wq => Below w4.heap.size w4 wq ∧ (M.length = 0 ∨ ∃ g cap, Value.slice aL M.length cL = .slice (some ⟨g, 0, none⟩) M.length cap ∧ w4.heap.size ≤ g ∧ RowZ g M.length wq) ∧ ∃ q : Nat, q ≤ M.length ∧ s17 = vI q) (fun s17 _ => ((M.length : Int) - intOf s17).toNat)
        case atStart => exact ⟨B46, hz6, 0, Nat.zero_le _, rfl⟩
        case round =>
          obtain ⟨hBq, hzq, q, hq, rfl⟩ := hrel
          clear hz6 B46
          by_cases hql : (q : Int) < M.length
          · rcases hzq with h0 | ⟨g, cap', eg, hg, Z⟩
            · omega
            cases eg
            have Z' := Z
            obtain ⟨cs, h1, h2⟩ := Z
            obtain ⟨z, hz⟩ := h2 q (by omega)
            have dq : wr.cell? ⟨g, q, none⟩ = some (v32 z) := by rw [cell_of_row _ _ _ _ _ _ h1]; exact hz
            have fq : wr.frozen? ⟨g, q, none⟩ = false := frozen_of_row _ _ _ _ _ h1
            clear h1 h2 hz
            go_wp2
            go_roundw
            case rel => exact ⟨hBq.setCell (p := ⟨g, q, none⟩) hg _, .inr ⟨g, _, rfl, hg, Z'.set _⟩, q + 1, by omega, by simp⟩
            case measure => simp [intOf]; omega
          · go_wp2
            go_roundw
            case rel => exact ⟨hB.trans (hBq.mono hB.size), k + 1, by omega, by simp⟩
            case measure => simp [intOf]; omega
      | false => 
        simp only [if_true, Bool.false_eq_true, if_false] at k1
        go_upto_region 8 with (go_at_call 10; (with_reducible refine k1.mono ?_); clear k1; rintro e w5 ⟨uL, rfl, RL, B5⟩; dsimp only)
        have k2 := kS w5 uL (hB.trans (B5.mono hB.size)) (wds_of_own RL (by omega))
        clear kS
        have hz := RowZ.of RL
        obtain ⟨aL, cL, eL, _⟩ := own_len RL
        subst eL
        go_upto_region 12 with (go_at_call 11; (with_reducible refine k2.mono ?_); clear k2; rintro e w6 ⟨rfl, B6⟩; dsimp only)
        have B46 : Below w4.heap.size w4 w6 := B5.trans (B6.mono B5.size)
        have hz6 : M.length = 0 ∨ ∃ g cap, Value.slice aL M.length cL = .slice (some ⟨g, 0, none⟩) M.length cap ∧ w4.heap.size ≤ g ∧ RowZ g M.length w6 := by
          rcases hz with ⟨_, h⟩ | ⟨g, cap, e1, e2, cs, h3, h4⟩
          · exact .inl h
          · exact .inr ⟨g, cap, e1, e2, cs, by rw [B6.block g (lt_of_some h3)]; exact h3, h4⟩
        clear hz RL B5 B6
        go_loopw [17] (fun s17 wq => Below w4.heap.size w4 wq ∧ (M.length = 0 ∨ ∃ g cap, Value.slice aL M.length cL = .slice (some ⟨g, 0, none⟩) M.length cap ∧ w4.heap.size ≤ g ∧ RowZ g M.length wq) ∧ ∃ q : Nat, q ≤ M.length ∧ s17 = vI q) (fun s17 _ => ((M.length : Int) - intOf s17).toNat)
        case atStart => exact ⟨B46, hz6, 0, Nat.zero_le _, rfl⟩
        case round =>
          obtain ⟨hBq, hzq, q, hq, rfl⟩ := hrel
          clear hz6 B46
          by_cases hql : (q : Int) < M.length
          · rcases hzq with h0 | ⟨g, cap', eg, hg, Z⟩
            · omega
            cases eg
            have Z' := Z
            obtain ⟨cs, h1, h2⟩ := Z
            obtain ⟨z, hz⟩ := h2 q (by omega)
            have dq : wr.cell? ⟨g, q, none⟩ = some (v32 z) := by rw [cell_of_row _ _ _ _ _ _ h1]; exact hz
            have fq : wr.frozen? ⟨g, q, none⟩ = false := frozen_of_row _ _ _ _ _ h1
            clear h1 h2 hz
            go_wp2
            go_roundw
            case rel => exact ⟨hBq.setCell (p := ⟨g, q, none⟩) hg _, .inr ⟨g, _, rfl, hg, Z'.set _⟩, q + 1, by omega, by simp⟩
            case measure => simp [intOf]; omega
          · go_wp2
            go_roundw
            case rel => exact ⟨hB.trans (hBq.mono hB.size), k + 1, by omega, by simp⟩
            case measure => simp [intOf]; omega
    · clear kM kS
      have RO4 := own_grow RO3 hB
      have low4 : Below w.heap.size w w4 := low3.trans (hB.mono low3.size)
      have NO := own_nts RO4 hmax
      have NT := N.grow low4
      go_wp2
      go_loopw [18] (fun s18 wq => Below w4.heap.size w4 wq ∧ ∃ q : Nat, q ≤ tr.length ∧ s18 = vI q) (fun s18 _ => ((tr.length : Int) - intOf s18).toNat)
      case atStart => exact ⟨Below.refl _ _, 0, Nat.zero_le _, rfl⟩
      case round =>
        obtain ⟨hBq, q, hq, rfl⟩ := hrel
        by_cases hql : (q : Int) < tr.length
        · obtain ⟨n, hn⟩ : ∃ n, tr[q]? = some n := ⟨tr[q]'(by omega), List.getElem?_eq_getElem (by omega)⟩
          obtain ⟨ra, cap1, e1, hc1⟩ := NT.cell (by omega)
          cases e1
          obtain ⟨rb, cap2, e2, hc2⟩ := NO.cell (by omega)
          cases e2
          have AT := hc1 q n hn
          have AO := hc2 q n hn
          clear hc1 hc2 hn
          go_upto_region 18 with fail
          have hst : (fun (_ : Nat) (W : World) => Below w4.heap.size w4 W) 0 _ := hBq.trans ((Rel.below_draws (n := 1) (Below.refl _ _)).mono hBq.size)
          refine Chn.wp_region_chainL (fun (_ : Nat) (W : World) => Below w4.heap.size w4 W) [] [0, 0, 0, 0, 0, 0, 0, 0, 0] [.slice (some rb) tr.length cO, vI q, .pointer (some (rb.add (q * 4))), ntV n, .slice (some ra) tr.length cap, vI q, .pointer (some (ra.add (q * 4))), ntV n, .bool false] (by kernel_rfl) (by kernel_rfl) (by kernel_rfl) (by kernel_rfl) (by kernel_rfl) hst ?_
          clear hst
          refine ⟨fun j w1 hj hC => by
            exact Chn.upon_pure hC (fun F hF => by (go_simp <;> exact hF)), ?_⟩
          simp only [Act.put, List.setIfInBounds_toArray, List.set_cons_succ, List.set_cons_zero]
          refine ⟨fun j w1 hj hC => by
            exact Chn.upon_pure hC (fun F hF => by (go_simp <;> exact hF)), ?_⟩
          simp only [Act.put, List.setIfInBounds_toArray, List.set_cons_succ, List.set_cons_zero]
          refine ⟨fun j w1 hj hC => by
            exact Chn.upon_pure hC (fun F hF => by (go_simp <;> exact hF)), ?_⟩
          simp only [Act.put, List.setIfInBounds_toArray, List.set_cons_succ, List.set_cons_zero]
          refine ⟨fun j w1 hj hC => by
            have A1 := (AO).keep hC.size (hC.block _ (AO).lt)
            have d0 := A1.c0
            have d1 := A1.c1
            have d2 := A1.c2
            have d3 := A1.c3
            exact Chn.upon_pure hC (fun F hF => by (go_simp <;> exact hF)), ?_⟩
          simp only [Act.put, List.setIfInBounds_toArray, List.set_cons_succ, List.set_cons_zero]
          refine ⟨fun j w1 hj hC => by
            exact Chn.upon_pure hC (fun F hF => by (go_simp <;> exact hF)), ?_⟩
          simp only [Act.put, List.setIfInBounds_toArray, List.set_cons_succ, List.set_cons_zero]
          refine ⟨fun j w1 hj hC => by
            exact Chn.upon_pure hC (fun F hF => by (go_simp <;> exact hF)), ?_⟩
          simp only [Act.put, List.setIfInBounds_toArray, List.set_cons_succ, List.set_cons_zero]
          refine ⟨fun j w1 hj hC => by
            exact Chn.upon_pure hC (fun F hF => by (go_simp <;> exact hF)), ?_⟩
          simp only [Act.put, List.setIfInBounds_toArray, List.set_cons_succ, List.set_cons_zero]
          refine ⟨fun j w1 hj hC => by
            have A1 := (AT).keep hC.size (hC.block _ (AT).lt)
            have d0 := A1.c0
            have d1 := A1.c1
            have d2 := A1.c2
            have d3 := A1.c3
            exact Chn.upon_pure hC (fun F hF => by (go_simp <;> exact hF)), ?_⟩
          simp only [Act.put, List.setIfInBounds_toArray, List.set_cons_succ, List.set_cons_zero]
          refine ⟨fun j w1 hj hC => by
            exact Chn.upon_pure hC (fun F hF => by (go_simp <;> exact hF)), ?_⟩
          simp only [Act.put, List.setIfInBounds_toArray, List.set_cons_succ, List.set_cons_zero]
          intro w5 hC
          go_wp2
          go_roundw
          case rel => exact ⟨hC, q + 1, by omega, by simp⟩
          case measure => simp [intOf]; omega
        · go_wp2
          go_ret
          exact ⟨rfl, low4.trans (hBq.mono low4.size)⟩
end Go.Proofs.Ytbdmemjenpnjgaa
