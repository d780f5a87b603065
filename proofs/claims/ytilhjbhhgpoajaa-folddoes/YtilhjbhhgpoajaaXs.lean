/- Wc, Wd of the seat, joined. -/
import Derived.Test.YtilhjbhhgpoajaaVf
/- does: where no run is made. -/
namespace Go.Proofs.Ytilhjbhhgpoajaa
open Go.RowKit
set_option linter.unusedVariables false
set_option linter.unusedSimpArgs false
set_option maxRecDepth 8000

section
variable {w : World} {pc words el : Int} {v1 v2 vz : Value} {l : List Opr} {c : Cor} {z : List Gt}
def doesW (w x : World) (pc words el : Int) (v1 v2 : Value) (c : Cor) (b1 b2 b3 : Nat) : Prop := x.heap[b1]? = some (.cells (blA pc words el v1) 25) ∧ x.heap[b2]? = some (.cells (blA pc words el v2) 25) ∧ x.heap[b3]? = some (.cells c.cells 29) ∧ Below w.heap.size w x
theorem doesW_first (w : World) (pc words el : Int) (v1 v2 : Value) (c : Cor) : doesW w (((w.alloc (.cells (blA pc words el v1) 25)).alloc (.cells (blA pc words el v2) 25)).alloc (.cells c.cells 29)) pc words el v1 v2 c w.heap.size (w.heap.size + 1) (w.heap.size + 2) := by
  have hb1 := below_alloc w (.cells (blA pc words el v1) 25)
  have hb2 := below_alloc (w.alloc (.cells (blA pc words el v1) 25)) (.cells (blA pc words el v2) 25)
  have hb3 := below_alloc ((w.alloc (.cells (blA pc words el v1) 25)).alloc (.cells (blA pc words el v2) 25)) (.cells c.cells 29)
  refine ⟨keepRow (keepRow (heap_alloc_new _ _) hb2) hb3, keepRow ?_ hb3, ?_, below_then (below_then hb1 (Nat.le_refl _) hb2) (Nat.le_refl _) hb3⟩
  · have := heap_alloc_new (w.alloc (.cells (blA pc words el v1) 25)) (.cells (blA pc words el v2) 25)
    rw [World.size_alloc] at this; exact this
  · have := heap_alloc_new ((w.alloc (.cells (blA pc words el v1) 25)).alloc (.cells (blA pc words el v2) 25)) (.cells c.cells 29)
    rw [World.size_alloc, World.size_alloc] at this; exact this
theorem doesW_grow {w x y : World} {pc words el : Int} {v1 v2 : Value} {c : Cor} {b1 b2 b3 : Nat} (h : doesW w x pc words el v1 v2 c b1 b2 b3) (hb : Below x.heap.size x y) : doesW w y pc words el v1 v2 c b1 b2 b3 :=
  ⟨keepRow h.1 hb, keepRow h.2.1 hb, keepRow h.2.2.1 hb, below_then h.2.2.2 (Nat.le_refl _) hb⟩
set_option maxHeartbeats 8000000 in
theorem does_no (hpc : 0 ≤ pc) (O1 : Ops w v1 l) (O2 : Ops w v2 (layAll l)) (hu : ∀ k, U64 (opAt l k).imm) (hum : ∀ k, U64 (opAt (layAll l) k).imm) (cap1 : ∀ ao n cap, v1 = .slice ao n cap → n ≤ cap) (cap2 : ∀ ao n cap, v2 = .slice ao n cap → n ≤ cap) (hc : CorOk c) (hE1 : newE pc words el l c = 1) (hE2 : newE pc words el (layAll l) c = 1) : Calls Try.prog 13 #[blV pc words el v1, blV pc words el v2, c.val, vz] w fun e w' => e = .returned (.bool true) ∧ Below w.heap.size w w' := by
  have R := doesW_first w pc words el v1 v2 c
  have P1 := O1.grow R.2.2.2
  have P2 := O2.grow R.2.2.2
  go_enter Try.func13, Try.ntmps13
  go_upto_region 1 with fail
  generalize ((w.alloc (.cells (blA pc words el v1) 25)).alloc (.cells (blA pc words el v2) 25)).alloc (.cells c.cells 29) = x1 at *
  generalize w.heap.size + 2 = b3 at *
  generalize w.heap.size + 1 = b2 at *
  generalize hb1 : w.heap.size = b1 at R
  replace hb1 := show Hid _ from hb1
  have k1 := newDN_c (words := words) hpc P1 hu cap1 hc hE1
  have r1 := R.1
  have r2 := R.2.1
  have r3 := R.2.2.1
  have hB := R.2.2.2
  clear R
  go_upto_region 2 with (first | ((with_reducible refine wpList_load_if rfl 25 _ rfl _ rfl 25 _ (0, 0) _ r1 Try.underlying25 rfl (bl_inf _ _ _ _) ?_); simp only [Act.put, List.setIfInBounds_toArray, List.set_cons_succ, List.set_cons_zero]) | ((with_reducible refine wpList_load_if rfl 29 _ rfl _ rfl 29 _ (0, 0) _ r3 Try.underlying29 rfl (Cor.info _) ?_); simp only [Act.put, List.setIfInBounds_toArray, List.set_cons_succ, List.set_cons_zero]) | (go_at_call 25; (with_reducible refine k1.mono ?_); clear k1; rintro e x2 ⟨rfl, B⟩; dsimp only))
  replace r2 := keepRow r2 B
  replace r3 := keepRow r3 B
  replace hB := below_then hB (Nat.le_refl _) B
  have k2 := newDN_c (words := words) hpc (P2.grow B) hum cap2 hc hE2
  clear B P1 P2 O1 O2 r1
  go_wp2_with (first | ((with_reducible refine wpList_load_if rfl 25 _ rfl _ rfl 25 _ (0, 0) _ r2 Try.underlying25 rfl (bl_inf _ _ _ _) ?_); simp only [Act.put, List.setIfInBounds_toArray, List.set_cons_succ, List.set_cons_zero]) | ((with_reducible refine wpList_load_if rfl 29 _ rfl _ rfl 29 _ (0, 0) _ r3 Try.underlying29 rfl (Cor.info _) ?_); simp only [Act.put, List.setIfInBounds_toArray, List.set_cons_succ, List.set_cons_zero]) | (go_at_call 25; (with_reducible refine k2.mono ?_); clear k2; rintro e x3 ⟨rfl, B⟩; dsimp only))
  go_ret
  exact ⟨rfl, below_then hB (Nat.le_refl _) B⟩
end
end Go.Proofs.Ytilhjbhhgpoajaa
/- does: where both runs are made. -/
namespace Go.Proofs.Ytilhjbhhgpoajaa
open Go.RowKit
set_option linter.unusedVariables false
set_option linter.unusedSimpArgs false
set_option maxRecDepth 8000

section
variable {w : World} {pc words el : Int} {v2 : Value} {l : List Opr} {c : Cor} {z : List Gt} {a1 : Option Addr} {c1 : Nat} {zo : Option Addr} {zc : Nat}
set_option maxHeartbeats 16000000 in
theorem does_yes (G : Gots w (.slice zo z.length zc) z) (hpc : 0 ≤ pc) (hel : el = 0 ∨ el = 1) (hR : rightB pc words el l = true) (hu : ∀ k, U64 (opAt l k).imm) (O1 : Ops w (.slice a1 l.length c1) l) (O2 : Ops w v2 (layAll l)) (cap1 : ∀ ao n cap, Value.slice a1 l.length c1 = .slice ao n cap → n ≤ cap) (cap2 : ∀ ao n cap, v2 = .slice ao n cap → n ≤ cap) (low1 : ∀ ra n cap, Value.slice a1 l.length c1 = .slice (some ra) n cap → ra.block < w.heap.size) (low2 : ∀ ra n cap, v2 = .slice (some ra) n cap → ra.block < w.heap.size) (hc : CorOk c) (hE1 : newE pc words el l c = 0) (hE2 : newE pc words el (layAll l) c = 0) : Calls Try.prog 13 #[blV pc words el (.slice a1 l.length c1), blV pc words el v2, c.val, .slice zo z.length zc] w fun e w' => e = .returned (.bool true) ∧ Below w.heap.size w w' := by
  obtain ⟨rm, hml, hum⟩ := right_layAll hR hu
  obtain ⟨fits1, last1⟩ := right_fits hR hu
  obtain ⟨fits2, last2⟩ := right_fits rm hum
  have h512 := (right_first hR).2.1
  have R := doesW_first w pc words el (.slice a1 l.length c1) v2 c
  have P1 := O1.grow R.2.2.2
  have P2 := O2.grow R.2.2.2
  have hb1w : w.heap.size < (((w.alloc (.cells (blA pc words el (.slice a1 l.length c1)) 25)).alloc (.cells (blA pc words el v2) 25)).alloc (.cells c.cells 29)).heap.size := lt_of_some R.1
  go_enter Try.func13, Try.ntmps13
  go_upto_region 1 with fail
  generalize ((w.alloc (.cells (blA pc words el (.slice a1 l.length c1)) 25)).alloc (.cells (blA pc words el v2) 25)).alloc (.cells c.cells 29) = x1 at *
  generalize w.heap.size + 2 = b3 at *
  generalize w.heap.size + 1 = b2 at *
  obtain ⟨r1, r2, r3, hB⟩ := R
  generalize hb1 : w.heap.size = b1 at r1
  replace hb1 := show Hid _ from hb1
  have k1 := newDY_c (words := words) hpc P1 hu cap1 hc hE1
  go_upto_region 2 with (first | ((with_reducible refine wpList_load_if rfl 25 _ rfl _ rfl 25 _ (0, 0) _ r1 Try.underlying25 rfl (bl_inf _ _ _ _) ?_); simp only [Act.put, List.setIfInBounds_toArray, List.set_cons_succ, List.set_cons_zero]) | ((with_reducible refine wpList_load_if rfl 29 _ rfl _ rfl 29 _ (0, 0) _ r3 Try.underlying29 rfl (Cor.info _) ?_); simp only [Act.put, List.setIfInBounds_toArray, List.set_cons_succ, List.set_cons_zero]) | (go_at_call 25; (with_reducible refine k1.mono ?_); clear k1; rintro e x2 ⟨⟨g1, vb1, rfl, H1, hg1, hv1⟩, B⟩; dsimp only))
  replace r1 := keepRow r1 B
  replace r2 := keepRow r2 B
  replace r3 := keepRow r3 B
  have hBx := below_then hB (Nat.le_refl _) B
  replace P2 := P2.grow B
  have hs1 := hB.size
  have hs2 := B.size
  have k2 := newDY_c (words := words) hpc P2 hum cap2 hc hE2
  clear B P1 hB
  have q1 := H1.lt
  have q2 := H1.ltv
  go_upto_region 3 with (first | ((with_reducible refine wpList_load_if rfl 25 _ rfl _ rfl 25 _ (0, 0) _ r2 Try.underlying25 rfl (bl_inf _ _ _ _) ?_); simp only [Act.put, List.setIfInBounds_toArray, List.set_cons_succ, List.set_cons_zero]) | ((with_reducible refine wpList_load_if rfl 29 _ rfl _ rfl 29 _ (0, 0) _ r3 Try.underlying29 rfl (Cor.info _) ?_); simp only [Act.put, List.setIfInBounds_toArray, List.set_cons_succ, List.set_cons_zero]) | (go_at_call 25; (with_reducible refine k2.mono ?_); clear k2; rintro e x3 ⟨⟨g2, vb2, rfl, H2, hg2, hv2⟩, B⟩; dsimp only))
  have C : Tq w pc words el (.slice a1 l.length c1) l v2 (layAll l) g1 vb1 g2 vb2 b1 (newD l.length c) (newD (layAll l).length c) x3 := by
    refine ⟨H1.grow B, H2, keepRow r1 B, below_then hBx (Nat.le_refl _) B, ⟨by omega, by omega, by omega, by omega⟩, ⟨by omega, by omega, by omega, by omega⟩, fun ra n cap e => ?_, fun ra n cap e => ?_⟩
    · have := low1 ra n cap e; exact ⟨by omega, by omega⟩
    · have := low2 ra n cap e; exact ⟨by omega, by omega⟩
  have R0 := rr_first (el := el) hR c
  generalize newD l.length c = D0 at *
  generalize newD (layAll l).length c = E0 at *
  clear r1 r2 r3 hBx B H1 H2 P2 hg1 hg2 hv1 hv2 q1 q2 hs1 hs2 hb1w O1 O2 hb1 cap1 cap2 low1 low2
  go_upto_region 6 with fail
  go_loopw [13] (fun s13 wr => ∃ (i : Nat) (D E : Dn), i ≤ l.length ∧ s13 = vI i ∧ Rr el l i D E ∧ Tq w pc words el (.slice a1 l.length c1) l v2 (layAll l) g1 vb1 g2 vb2 b1 D E wr) (fun s13 _ => ((l.length : Int) + 1 - intOf s13).toNat)
  case atStart => exact ⟨0, D0, E0, Nat.zero_le _, rfl, R0, C⟩
  case round =>
    clear C R0
    obtain ⟨i, D, E, hi, rfl, R, C⟩ := hrel
    have z3 : wr.cell? ⟨b1, 3, none⟩ = some (.slice a1 l.length c1) := by rw [cell_of_row _ _ _ _ _ _ C.row]; rfl
    have hlt : (i : Int) ≤ l.length := by omega
    have hin1 : DIn l D := fun hh => by
      rcases R with ⟨k, hk, Gk0⟩ | O
      · rw [Gk0.atD]; exact Gk0.lt
      · rw [O.lD] at hh; cases hh
    have hin2 : DIn (layAll l) E := fun hh => by
      rcases R with ⟨k, hk, Gk0⟩ | O
      · exact gk_in hR hu Gk0
      · rw [O.lE] at hh; cases hh
    have k8 := dNext_c C.d1 hel fits1 last1 hin1
    have k9 := fun x (H : DocAt pc words el v2 (layAll l) g2 vb2 E x) => dNext_c H hel fits2 last2 hin2
    have X := rr_next hR hu hel R
    clear R hin1 hin2
    generalize dNext el l D = F at *
    generalize dNext el (layAll l) E = F' at *
    obtain ⟨ec, ew, eo⟩ := nx_out X
    rw [ew, eo] at k9
    generalize outW F = W at *
    replace ec := show Hid _ from ec
    replace X := show Hid _ from X
    clear ew eo
    cases hgo : F.waits with
    | false =>
      rw [hgo] at k8 k9
      go_upto_region 9 with (first | (go_at_call 26; (with_reducible refine k8.mono ?_); clear k8; rintro e x4 ⟨rfl, R4⟩; dsimp only; have Hn := has_none x4) | ((with_reducible refine wpList_store_new Hn rfl 60 _ _ rfl (wnA W) rfl rfl (wn_inf _) (by kernel_rfl) (wn_one _) ?_); clear Hn; intro x5 Hn; simp only [Act.put, List.setIfInBounds_toArray, List.set_cons_succ, List.set_cons_zero]))
      replace C := (C.one R4).grow Hn.below
      have r14 := Hn.get List.mem_cons_self
      have hm14 := lt_of_some r14
      generalize x4.heap.size = t14 at *
      clear Hn R4
      replace k9 := k9 _ C.d2
      go_upto_region 10 with (first | (go_at_call 26; (with_reducible refine k9.mono ?_); clear k9; rintro e x6 ⟨rfl, R6⟩; dsimp only; have Hn := has_none x6) | ((with_reducible refine wpList_store_new Hn rfl 60 _ _ rfl (wnA W) rfl rfl (wn_inf _) (by kernel_rfl) (wn_one _) ?_); clear Hn; intro x7 Hn; simp only [Act.put, List.setIfInBounds_toArray, List.set_cons_succ, List.set_cons_zero]))
      replace r14 := keepRow (R6.kept r14 (ne_of_type r14 C.d2.top (by decide)) (ne_of_type r14 C.d2.vals (by decide))) Hn.below
      replace C := (C.two R6).grow Hn.below
      have r16 := Hn.get List.mem_cons_self
      generalize x6.heap.size = t16 at *
      clear Hn R6
      refine wp_region_still_tail 18 (by kernel_rfl) (by kernel_rfl) ?_
      replace C := C.grow (below_dr x7)
      replace r14 : ({ x7 with drawn := x7.drawn + 1 } : World).heap[t14]? = some (.cells (wnA W) 60) := r14
      replace r16 : ({ x7 with drawn := x7.drawn + 1 } : World).heap[t16]? = some (.cells (wnA W) 60) := r16
      generalize ({ x7 with drawn := x7.drawn + 1 } : World) = x8 at *
      have A1 := run_load_coreD C.d1
      have A2 := run_load_coreD C.d2
      rw [ec.out] at A2
      have A3 := run_loadVar_row x8 t14 60 60 (wnA W) (0, 0) _ r14 Try.underlying60 rfl (wn_inf _)
      have A4 := run_loadVar_row x8 t16 60 60 (wnA W) (0, 0) _ r16 Try.underlying60 rfl (wn_inf _)
      simp only [List.take_succ_cons, List.take_zero, List.drop_succ_cons, List.drop_zero]
      repeat (first | still_step | ((with_reducible refine still_row rfl _ _ rfl rfl A3 ?_); simp only [Act.put, List.setIfInBounds_toArray, List.set_cons_succ, List.set_cons_zero]) | ((with_reducible refine still_row rfl _ _ rfl rfl A4 ?_); simp only [Act.put, List.setIfInBounds_toArray, List.set_cons_succ, List.set_cons_zero]) | ((with_reducible refine still_row rfl _ _ rfl rfl A1 ?_); simp only [Act.put, List.setIfInBounds_toArray, List.set_cons_succ, List.set_cons_zero]) | ((with_reducible refine still_row rfl _ _ rfl rfl A2 ?_); simp only [Act.put, List.setIfInBounds_toArray, List.set_cons_succ, List.set_cons_zero]) | ((with_reducible refine still_neqW rfl _ _ rfl W rfl rfl ?_); simp only [Act.put, List.setIfInBounds_toArray, List.set_cons_succ, List.set_cons_zero]) | ((with_reducible refine still_neqC rfl _ _ rfl F.c rfl rfl ?_); simp only [Act.put, List.setIfInBounds_toArray, List.set_cons_succ, List.set_cons_zero]))
      refine wpStill_nil ?_
      clear A1 A2 A3 A4
      have O : Ou F F' := by
        rcases X.out with O | ⟨j, _, Q⟩
        · exact O
        · rw [Q.wD] at hgo; cases hgo
      have y1 := C.d1.c67
      have y2 := C.d2.c67
      have y3 := C.d1.c69
      have y4 := C.d2.c69
      have y5 := C.d1.c68
      have y6 := C.d2.c68
      rw [O.flt] at y2
      rw [O.guest] at y4
      rw [O.word] at y6
      have hBe := C.below
      generalize F.flt = f1 at *
      generalize F.guest = f2 at *
      generalize F.word = f3 at *
      clear C O X ec r14 r16 z3
      go_upto_region 13 with fail
      refine wp_region_still_tail 31 (by kernel_rfl) (by kernel_rfl) ?_
      replace hBe := below_dr' hBe
      replace y1 : ({ x8 with drawn := x8.drawn + 1 } : World).cell? ⟨g1, 67, none⟩ = some (.bool f1) := y1
      replace y2 : ({ x8 with drawn := x8.drawn + 1 } : World).cell? ⟨g2, 67, none⟩ = some (.bool f1) := y2
      replace y3 : ({ x8 with drawn := x8.drawn + 1 } : World).cell? ⟨g1, 69, none⟩ = some (.bool f2) := y3
      replace y4 : ({ x8 with drawn := x8.drawn + 1 } : World).cell? ⟨g2, 69, none⟩ = some (.bool f2) := y4
      replace y5 : ({ x8 with drawn := x8.drawn + 1 } : World).cell? ⟨g1, 68, none⟩ = some (vU f3) := y5
      replace y6 : ({ x8 with drawn := x8.drawn + 1 } : World).cell? ⟨g2, 68, none⟩ = some (vU f3) := y6
      generalize ({ x8 with drawn := x8.drawn + 1 } : World) = x9 at *
      simp only [List.take_succ_cons, List.take_zero, List.drop_succ_cons, List.drop_zero]
      cases f1 <;> cases f2
      all_goals
        repeat still_step
        refine wpStill_nil ?_
        go_wp2
        go_ret
        exact ⟨rfl, hBe⟩
    | true =>
      rw [hgo] at k8 k9
      go_upto_region 9 with (first | (go_at_call 26; (with_reducible refine k8.mono ?_); clear k8; rintro e x4 ⟨rfl, R4⟩; dsimp only; have Hn := has_none x4) | ((with_reducible refine wpList_store_new Hn rfl 60 _ _ rfl (wnA W) rfl rfl (wn_inf _) (by kernel_rfl) (wn_one _) ?_); clear Hn; intro x5 Hn; simp only [Act.put, List.setIfInBounds_toArray, List.set_cons_succ, List.set_cons_zero]))
      replace C := (C.one R4).grow Hn.below
      have r14 := Hn.get List.mem_cons_self
      have hm14 := lt_of_some r14
      generalize x4.heap.size = t14 at *
      clear Hn R4
      replace k9 := k9 _ C.d2
      go_upto_region 10 with (first | (go_at_call 26; (with_reducible refine k9.mono ?_); clear k9; rintro e x6 ⟨rfl, R6⟩; dsimp only; have Hn := has_none x6) | ((with_reducible refine wpList_store_new Hn rfl 60 _ _ rfl (wnA W) rfl rfl (wn_inf _) (by kernel_rfl) (wn_one _) ?_); clear Hn; intro x7 Hn; simp only [Act.put, List.setIfInBounds_toArray, List.set_cons_succ, List.set_cons_zero]))
      replace r14 := keepRow (R6.kept r14 (ne_of_type r14 C.d2.top (by decide)) (ne_of_type r14 C.d2.vals (by decide))) Hn.below
      replace C := (C.two R6).grow Hn.below
      have r16 := Hn.get List.mem_cons_self
      generalize x6.heap.size = t16 at *
      clear Hn R6
      refine wp_region_still_tail 18 (by kernel_rfl) (by kernel_rfl) ?_
      replace C := C.grow (below_dr x7)
      replace r14 : ({ x7 with drawn := x7.drawn + 1 } : World).heap[t14]? = some (.cells (wnA W) 60) := r14
      replace r16 : ({ x7 with drawn := x7.drawn + 1 } : World).heap[t16]? = some (.cells (wnA W) 60) := r16
      generalize ({ x7 with drawn := x7.drawn + 1 } : World) = x8 at *
      have A1 := run_load_coreD C.d1
      have A2 := run_load_coreD C.d2
      rw [ec.out] at A2
      have A3 := run_loadVar_row x8 t14 60 60 (wnA W) (0, 0) _ r14 Try.underlying60 rfl (wn_inf _)
      have A4 := run_loadVar_row x8 t16 60 60 (wnA W) (0, 0) _ r16 Try.underlying60 rfl (wn_inf _)
      simp only [List.take_succ_cons, List.take_zero, List.drop_succ_cons, List.drop_zero]
      repeat (first | still_step | ((with_reducible refine still_row rfl _ _ rfl rfl A3 ?_); simp only [Act.put, List.setIfInBounds_toArray, List.set_cons_succ, List.set_cons_zero]) | ((with_reducible refine still_row rfl _ _ rfl rfl A4 ?_); simp only [Act.put, List.setIfInBounds_toArray, List.set_cons_succ, List.set_cons_zero]) | ((with_reducible refine still_row rfl _ _ rfl rfl A1 ?_); simp only [Act.put, List.setIfInBounds_toArray, List.set_cons_succ, List.set_cons_zero]) | ((with_reducible refine still_row rfl _ _ rfl rfl A2 ?_); simp only [Act.put, List.setIfInBounds_toArray, List.set_cons_succ, List.set_cons_zero]) | ((with_reducible refine still_neqW rfl _ _ rfl W rfl rfl ?_); simp only [Act.put, List.setIfInBounds_toArray, List.set_cons_succ, List.set_cons_zero]) | ((with_reducible refine still_neqC rfl _ _ rfl F.c rfl rfl ?_); simp only [Act.put, List.setIfInBounds_toArray, List.set_cons_succ, List.set_cons_zero]))
      refine wpStill_nil ?_
      clear A1 A2 A3 A4
      clear r14 r16 hm14
      have h8 : 0 ≤ 8 * (i : Int) ∧ 8 * (i : Int) < 9223372036854775808 := by omega
      go_upto_region 15 with fail
      have hBg := below_alloc x8 (.cells (gtA ⟨8 * (i : Int), (i : Int) % 2 == 0, 0⟩) 67)
      have r18 : (x8.alloc (.cells (gtA ⟨8 * (i : Int), (i : Int) % 2 == 0, 0⟩) 67)).heap[x8.heap.size]? = some (.cells (gtA ⟨8 * (i : Int), (i : Int) % 2 == 0, 0⟩) 67) := heap_alloc_new _ _
      have U0 : U64 (8 * (i : Int)) := ⟨h8.1, by omega⟩
      generalize x8.alloc (.cells (gtA ⟨8 * (i : Int), (i : Int) % 2 == 0, 0⟩) 67) = x9 at *
      obtain ⟨j, hj, Q⟩ : ∃ j, i ≤ j ∧ Pk el l j F F' := by
        rcases X.out with O | ⟨j, hj, Q⟩
        · have := O.wD; rw [hgo] at this; cases this
        · exact ⟨j, hj, Q⟩
      have hgo2 := Q.wE
      have hpk := pk_le hR Q
      have h27a := fun x (H : DocAt pc words el (.slice a1 l.length c1) l g1 vb1 F x) t (hU : U64 (Gt.value t)) => dTake_c H t hU (fun _ => hpk.1)
      have h27b := fun x (H : DocAt pc words el v2 (layAll l) g2 vb2 F' x) t (hU : U64 (Gt.value t)) => dTake_c H t hU (fun _ => hpk.2)
      rw [hgo] at h27a
      rw [hgo2] at h27b
      have hrt := fun t => rr_take hj Q t
      clear X ec hj Q hgo2 hpk z3 h8
      by_cases hi2 : (i : Int) < z.length
      · obtain ⟨ra, zc', ez, hcz⟩ := (G.grow (below_then C.below (Nat.le_refl _) hBg)).cell (by omega)
        cases ez
        have hi3 : i < z.length := by omega
        have A := hcz i _ (List.getElem?_eq_getElem hi3)
        have hU := G.ok _ (List.getElem_mem hi3)
        generalize z[i] = t at A hU
        clear hcz
        go_upto_region 17 with (first | ((with_reducible refine wpList_load44 rfl _ rfl _ rfl t A ?_); simp only [Act.put, List.setIfInBounds_toArray, List.set_cons_succ, List.set_cons_zero]) | ((with_reducible refine wpList_store_row rfl 67 _ _ rfl x8.heap.size (gtA t) rfl rfl 67 _ r18 (gt_inf _) rfl (gt_one _) ?_); simp only [Act.put, List.setIfInBounds_toArray, List.set_cons_succ, List.set_cons_zero]))
        replace C := C.grow (below_setRow (cs := gtA t) hBg (Nat.le_refl _))
        replace r18 : (x9.setRow x8.heap.size (gtA t)).heap[x8.heap.size]? = some (.cells (gtA t) 67) := setRow_heap _ _ _ _ _ _ r18
        generalize x9.setRow x8.heap.size (gtA t) = x10 at *
        generalize x8.heap.size = t18 at *
        clear A hBg
        replace h27a := h27a _ C.d1 t hU
        go_upto_region 18 with (first | ((with_reducible refine wpList_load_if rfl 67 _ rfl _ rfl 67 _ (0, 0) _ r18 Try.underlying67 rfl (gt_inf _) ?_); simp only [Act.put, List.setIfInBounds_toArray, List.set_cons_succ, List.set_cons_zero]) | (go_at_call 27; (with_reducible refine h27a.mono ?_); clear h27a; rintro e x11 ⟨rfl, R11⟩; dsimp only))
        replace r18 := R11.kept r18 (ne_of_type r18 C.d1.top (by decide)) (ne_of_type r18 C.d1.vals (by decide))
        replace C := C.one R11
        clear R11
        replace h27b := h27b _ C.d2 t hU
        go_wp2_with (first | ((with_reducible refine wpList_load_if rfl 67 _ rfl _ rfl 67 _ (0, 0) _ r18 Try.underlying67 rfl (gt_inf _) ?_); simp only [Act.put, List.setIfInBounds_toArray, List.set_cons_succ, List.set_cons_zero]) | (go_at_call 27; (with_reducible refine h27b.mono ?_); clear h27b; rintro e x12 ⟨rfl, R12⟩; dsimp only))
        replace C := C.two R12
        obtain ⟨hr1, hr2⟩ := hrt t
        go_roundw
        case rel => exact ⟨i + 1, _, _, by omega, by simp, hr2, C⟩
        case measure => simp [intOf]; omega
      · replace C := C.grow hBg
        generalize ht : (⟨8 * (i : Int), (i : Int) % 2 == 0, 0⟩ : Gt) = t at *
        have hU : U64 t.value := by rw [← ht]; exact U0
        generalize x8.heap.size = t18 at *
        clear hBg
        generalize x9 = x10 at *
        replace h27a := h27a _ C.d1 t hU
        go_upto_region 18 with (first | ((with_reducible refine wpList_load_if rfl 67 _ rfl _ rfl 67 _ (0, 0) _ r18 Try.underlying67 rfl (gt_inf _) ?_); simp only [Act.put, List.setIfInBounds_toArray, List.set_cons_succ, List.set_cons_zero]) | (go_at_call 27; (with_reducible refine h27a.mono ?_); clear h27a; rintro e x11 ⟨rfl, R11⟩; dsimp only))
        replace r18 := R11.kept r18 (ne_of_type r18 C.d1.top (by decide)) (ne_of_type r18 C.d1.vals (by decide))
        replace C := C.one R11
        clear R11
        replace h27b := h27b _ C.d2 t hU
        go_wp2_with (first | ((with_reducible refine wpList_load_if rfl 67 _ rfl _ rfl 67 _ (0, 0) _ r18 Try.underlying67 rfl (gt_inf _) ?_); simp only [Act.put, List.setIfInBounds_toArray, List.set_cons_succ, List.set_cons_zero]) | (go_at_call 27; (with_reducible refine h27b.mono ?_); clear h27b; rintro e x12 ⟨rfl, R12⟩; dsimp only))
        replace C := C.two R12
        obtain ⟨hr1, hr2⟩ := hrt t
        go_roundw
        case rel => exact ⟨i + 1, _, _, by omega, by simp, hr2, C⟩
        case measure => simp [intOf]; omega
end
end Go.Proofs.Ytilhjbhhgpoajaa
