/- The chapter's examples. -/
import Derived.Test.YtfgbhdcoemkdoaaDoorTd
namespace Go.Proofs.YtfgbhdcoemkdoaaDoor
open Go.RowKit
set_option linter.unusedVariables false
set_option linter.unusedSimpArgs false
set_option maxRecDepth 8000

theorem addr_mid (b o j : Nat) : (⟨b, o, none⟩ : Addr).add j = ⟨b, o + j, none⟩ := Addr.add_mid b o j
theorem lit2 (w : World) (a b c d : Int) : Prs (w.alloc (.cells #[vI a, vI b, vI c, vI d] 60)) (.slice (some ⟨w.heap.size, 0, none⟩) 2 2) [(a, b), (c, d)] := by
  have h := World.alloc_heap_new w (.cells #[vI a, vI b, vI c, vI d] 60)
  have hs : w.heap.size < (w.alloc (.cells #[vI a, vI b, vI c, vI d] 60)).heap.size := by simp
  refine ⟨⟨_, _, rfl⟩, (by decide : 2 ≤ maxLen), fun _ => ⟨_, _, rfl, fun i p hp => ?_⟩⟩
  rw [addr_mid, Nat.zero_add]
  match i, hp with
  | 0, hp => cases hp; exact ⟨hs, by rw [cell_of_row _ _ _ _ _ _ h]; rfl, by rw [cell_of_row _ _ _ _ _ _ h]; rfl⟩
  | 1, hp => cases hp; exact ⟨hs, by rw [cell_of_row _ _ _ _ _ _ h]; rfl, by rw [cell_of_row _ _ _ _ _ _ h]; rfl⟩
theorem lit1 (w : World) (a b : Int) : Prs (w.alloc (.cells #[vI a, vI b] 60)) (.slice (some ⟨w.heap.size, 0, none⟩) 1 1) [(a, b)] := by
  have h := World.alloc_heap_new w (.cells #[vI a, vI b] 60)
  have hs : w.heap.size < (w.alloc (.cells #[vI a, vI b] 60)).heap.size := by simp
  refine ⟨⟨_, _, rfl⟩, (by decide : 1 ≤ maxLen), fun _ => ⟨_, _, rfl, fun i p hp => ?_⟩⟩
  rw [addr_mid, Nat.zero_add]
  match i, hp with
  | 0, hp => cases hp; exact ⟨hs, by rw [cell_of_row _ _ _ _ _ _ h]; rfl, by rw [cell_of_row _ _ _ _ _ _ h]; rfl⟩
theorem of_yes {m : Nat} {v : Value} {ps : List (Int × Int)} {w : World} (hv : Prs w v ps) (hn : newE m = 0) (ho : ofOk m ps = true) : Calls Tryd.prog 10 #[vI m, v] w fun e w' => ∃ r, e = .returned (.tuple #[ptr r 0, vI 0]) ∧ RelAt r m (ofR ps) w' ∧ Below w.heap.size w w' :=
  (of_c m hv).mono fun e w' h => by
    obtain ⟨hB, h | ⟨m', hm, _, h | ⟨_, r, h1, h2, _⟩⟩⟩ := h
    · exact absurd hn h.1
    · obtain rfl : m = m' := by omega
      rw [ho] at h; cases h.1
    · obtain rfl : m = m' := by omega
      exact ⟨r, h1, h2, hB⟩
theorem of_no {m : Nat} {v : Value} {ps : List (Int × Int)} {w : World} (hv : Prs w v ps) (hn : newE m = 0) (ho : ofOk m ps = false) : Calls Tryd.prog 10 #[vI m, v] w fun e w' => e = .returned (.tuple #[.pointer none, vI 1]) ∧ Below w.heap.size w w' :=
  (of_c m hv).mono fun e w' h => by
    obtain ⟨hB, h | ⟨m', hm, _, h | ⟨h, _⟩⟩⟩ := h
    · exact absurd hn h.1
    · exact ⟨h.2, hB⟩
    · obtain rfl : m = m' := by omega
      rw [ho] at h; cases h
def ex1 : List (Int × Int) := [(0, 1), (1, 2)]
def ex2 : List (Int × Int) := [(2, 1), (3, 0)]
def ex3 : List (Int × Int) := [(0, 1), (1, 0)]
theorem ex1_pairs : Rlw.prsN 4 4 (Rlw.war (ofR ex1) 4) = [(0, 1), (0, 2), (1, 2)] := by decide +kernel
theorem ex2_order : Rlw.ordB 4 (ofR ex2) = true ∧ ordV 4 (ofR ex2) = [2, 1, 3, 0] := by decide +kernel
theorem ex3_loop : Rlw.loopF 4 (ofR ex3) = some 0 ∧ Rlw.ordB 4 (ofR ex3) = false := by decide +kernel
theorem ex1_has : ofR ex1 0 1 = true ∧ ofR ex1 1 0 = false := by decide +kernel
set_option maxHeartbeats 8000000 in
theorem examples_c {w : World} (hT : Tab w) : Calls Tryd.prog 7 #[] w fun e w' => e = .returned (.bool true) ∧ Below w.heap.size w w' := by
  go_enter Tryd.func7, Tryd.ntmps7
  go_upto_region 2 with (first | (go_at_call 10; (refine (of_yes (m := 4) (lit2 w 0 1 1 2) rfl rfl).mono ?_); rintro e w1 ⟨r1, rfl, H1, hB1⟩; dsimp only))
  replace hB1 : Below w.heap.size w w1 := (below_alloc w _).trans (hB1.mono (below_alloc w _).size)
  go_upto_region 3 with (first | (go_at_call 10; (refine (of_yes (m := 4) (lit2 w1 2 1 3 0) rfl rfl).mono ?_); rintro e w2 ⟨r2, rfl, H2, hB2⟩; dsimp only))
  replace hB2 : Below w1.heap.size w1 w2 := (below_alloc w1 _).trans (hB2.mono (below_alloc w1 _).size)
  go_upto_region 4 with (first | (go_at_call 10; (refine (of_yes (m := 4) (lit2 w2 0 1 1 0) rfl rfl).mono ?_); rintro e w3 ⟨r3, rfl, H3, hB3⟩; dsimp only))
  replace hB3 : Below w2.heap.size w2 w3 := (below_alloc w2 _).trans (hB3.mono (below_alloc w2 _).size)
  go_upto_region 5 with (first | (go_at_call 39; (refine (new_bad (n := 65) (by decide) w3).mono ?_); rintro e w3 ⟨rfl, rfl⟩; dsimp only))
  go_upto_region 6 with (first | (go_at_call 10; (refine (of_no (m := 1) (lit1 w3 0 1) rfl rfl).mono ?_); rintro e w4 ⟨rfl, hB4⟩; dsimp only))
  replace hB4 : Below w3.heap.size w3 w4 := (below_alloc w3 _).trans (hB4.mono (below_alloc w3 _).size)
  have B1 : Below w.heap.size w w1 := hB1
  have B2 : Below w.heap.size w w2 := B1.trans (hB2.mono B1.size)
  have B3 : Below w.heap.size w w3 := B2.trans (hB3.mono B2.size)
  have B4 : Below w.heap.size w w4 := B3.trans (hB4.mono B3.size)
  have H14 : RelAt r1 4 (ofR ex1) w4 := ((H1.grow hB2).grow hB3).grow hB4
  have H24 : RelAt r2 4 (ofR ex2) w4 := (H2.grow hB3).grow hB4
  have H34 : RelAt r3 4 (ofR ex3) w4 := H3.grow hB4
  clear H1 H2 H3 hB1 hB2 hB3 hB4 B1 B2 B3
  go_upto_region 8 with fail
  have hc := closed_c H14
  go_upto_region 9 with (first | (go_at_call 15; (with_reducible refine hc.mono ?_); rintro e w5 ⟨q, rfl, HQ, _, hB5⟩; have hpp := pairs_r HQ (hT.grow (B4.trans (hB5.mono B4.size))); rw [ex1_pairs] at hpp; dsimp only) | (go_at_call 37; (with_reducible refine hpp.mono ?_); rintro e w6 ⟨vp, rfl, Rp, hB6⟩; dsimp only))
  have B5 : Below w.heap.size w w5 := B4.trans (hB5.mono B4.size)
  have B6 : Below w.heap.size w w6 := B5.trans (hB6.mono B5.size)
  have G46 : Below w4.heap.size w4 w6 := hB5.trans (hB6.mono hB5.size)
  clear hc hpp
  have ho := order_c (H24.grow G46) (hT.grow B6)
  rw [ex2_order.1, ex2_order.2] at ho
  go_upto_region 10 with (first | (go_at_call 19; (with_reducible refine ho.mono ?_); rintro e w7 ⟨vo, rfl, Ro, hB7⟩; dsimp only))
  have B7 : Below w.heap.size w w7 := B6.trans (hB7.mono B6.size)
  have G47 : Below w4.heap.size w4 w7 := G46.trans (hB7.mono G46.size)
  clear ho
  have hl := loop_c (H34.grow G47)
  rw [ex3_loop.1] at hl
  go_upto_region 11 with (first | (go_at_call 17; (with_reducible refine hl.mono ?_); rintro e w8 ⟨rfl, hB8⟩; dsimp only))
  have B8 : Below w.heap.size w w8 := B7.trans (hB8.mono B7.size)
  have G48 : Below w4.heap.size w4 w8 := G47.trans (hB8.mono G47.size)
  clear hl
  have ho2 := order_c (H34.grow G48) (hT.grow B8)
  rw [ex3_loop.2] at ho2
  go_upto_region 12 with (first | (go_at_call 19; (with_reducible refine ho2.mono ?_); rintro e w9 ⟨vo2, rfl, _, hB9⟩; dsimp only))
  have B9 : Below w.heap.size w w9 := B8.trans (hB9.mono B8.size)
  have G49 : Below w4.heap.size w4 w9 := G48.trans (hB9.mono G48.size)
  clear ho2
  have Rp9 := own_grow (own_grow (own_grow Rp hB7) hB8) hB9
  have Ro9 := own_grow (own_grow Ro hB8) hB9
  obtain ⟨gp, cp, evp⟩ := own_slice Rp9 (by decide)
  obtain ⟨go', co, evo⟩ := own_slice Ro9 (by decide)
  subst evp
  subst evo
  have p0 := own_pair Rp9 (k := 1) (p := (0, 2)) rfl
  have cp0 : w9.cell? ⟨gp, 2, none⟩ = some (vI 0) := p0 0 _ rfl
  have cp1 : w9.cell? ⟨gp, 3, none⟩ = some (vI 2) := p0 1 _ rfl
  have o0 : w9.cell? ⟨go', 0, none⟩ = some (vI 2) := own_cell (l := [2, 1, 3, 0]) Ro9 rfl (k := 0) rfl
  have o1 : w9.cell? ⟨go', 1, none⟩ = some (vI 1) := own_cell (l := [2, 1, 3, 0]) Ro9 rfl (k := 1) rfl
  have o2 : w9.cell? ⟨go', 2, none⟩ = some (vI 3) := own_cell (l := [2, 1, 3, 0]) Ro9 rfl (k := 2) rfl
  have hh1 := rhas_c (H14.grow G49) 0 1
  have hh2 := rhas_c (H14.grow G49) 1 0
  rw [show (inB 4 0 && inB 4 1 && ofR ex1 (0 : Int).toNat (1 : Int).toNat) = true from ex1_has.1] at hh1
  rw [show (inB 4 1 && inB 4 0 && ofR ex1 (1 : Int).toNat (0 : Int).toNat) = false from ex1_has.2] at hh2
  clear p0 Rp9 Ro9 Rp Ro H14 H24 H34 HQ hB5 hB6 hB7 hB8 hB9
  simp only [List.append_eq, List.cons_append, List.nil_append]
  go_wp2_with (first | (with_reducible refine wpList_eql60 rfl _ _ rfl 0 2 0 2 rfl rfl ?_; simp only [Act.put, List.setIfInBounds_toArray, List.set_cons_succ, List.set_cons_zero]) | (go_at_call 21; (with_reducible refine hh1.mono ?_); clear hh1; rintro e w9 ⟨rfl, rfl⟩; dsimp only) | (go_at_call 21; (with_reducible refine hh2.mono ?_); clear hh2; rintro e w9 ⟨rfl, rfl⟩; dsimp only))
  go_ret
  exact ⟨rfl, B9⟩
end Go.Proofs.YtfgbhdcoemkdoaaDoor
