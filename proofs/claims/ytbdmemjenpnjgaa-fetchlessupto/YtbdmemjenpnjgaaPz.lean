/- lost, may. -/
import Derived.Test.YtbdmemjenpnjgaaPy
namespace Go.Proofs.Ytbdmemjenpnjgaa
open Go.RowKit
set_option linter.unusedVariables false
set_option linter.unusedSimpArgs false
set_option maxRecDepth 8000

open Go.Shelf Go.Maps
set_option maxHeartbeats 1000000 in
theorem lost_c {G : Gh} {S : Pst} {M : Nat} {w : World} (P : PastAt G S M w) {b : Nat} (hR : ∀ s, Ris b (S.ms s)) {c a : Nat} (hc : c < 8) (ha : a < 18446744073709551616) : Calls Try.prog 31 #[ptr G.p 0, vI c, vU a] w fun e w' => e = .returned (vI (S.lost c a)) ∧ Below w.heap.size w w' := by
  have hline : lineN a < 18446744073709551616 := by unfold lineN; omega
  go_enter Try.func31, Try.ntmps31
  go_upto_region 1 with fail
  have hst : (fun (_ : Nat) (w2 : World) => PastAt G S M w2 ∧ Below w.heap.size w w2) 0 _ := ⟨P.grow (Rel.below_draws (n := 1) (Below.refl _ _)), Rel.below_draws (n := 1) (Below.refl _ _)⟩
  refine Chn.wp_region_chainL (fun (_ : Nat) (w2 : World) => PastAt G S M w2 ∧ Below w.heap.size w w2) [] [0, 0, 0, 0, 0, 0, 0, 0, 0, 0, 0, 0, 0, 0, 0, 0, 0, 0, 0, 0, 0, 0, 0, 0, 0, 0, 0] [ptr G.p 0, ptr G.p 0, ptr G.p 2, .map (some G.bl), vU a, vU (lineN a), G.val (.ln (lineN a)), ptr G.p 0, vI c, ptr G.p 0, ptr G.p 4, ptr G.p (4 + c), vI (S.isb c), vI (lastN (S.ms (.ln (lineN a))) (S.isb c)), ptr G.p 0, ptr G.p 0, ptr G.p 3, G.val .al, ptr G.p 0, vI c, ptr G.p 0, ptr G.p 4, ptr G.p (4 + c), vI (S.isb c), vI (lastN (S.ms .al) (S.isb c)), vI (S.noted c a), vI (S.noted c a)] (by kernel_rfl) (by kernel_rfl) (by kernel_rfl) (by kernel_rfl) (by kernel_rfl) hst ?_
  clear hst
  refine ⟨fun j w1 hj hC => by exact Chn.upon_pure hC (fun F hF => by (go_simp <;> exact hF)), ?_⟩
  simp only [Act.put, List.setIfInBounds_toArray, List.set_cons_succ, List.set_cons_zero]
  refine ⟨fun j w1 hj hC => by exact Chn.upon_pure hC (fun F hF => by (go_simp <;> exact hF)), ?_⟩
  simp only [Act.put, List.setIfInBounds_toArray, List.set_cons_succ, List.set_cons_zero]
  refine ⟨fun j w1 hj hC => by exact Chn.upon_pure hC (fun F hF => by (go_simp <;> exact hF)), ?_⟩
  simp only [Act.put, List.setIfInBounds_toArray, List.set_cons_succ, List.set_cons_zero]
  refine ⟨fun j w1 hj hC => by
    have z := hC.1.c2
    exact Chn.upon_pure hC (fun F hF => by (go_simp <;> exact hF)), ?_⟩
  simp only [Act.put, List.setIfInBounds_toArray, List.set_cons_succ, List.set_cons_zero]
  refine ⟨fun j w1 hj hC => by exact Chn.upon_pure hC (fun F hF => by (go_simp <;> exact hF)), ?_⟩
  simp only [Act.put, List.setIfInBounds_toArray, List.set_cons_succ, List.set_cons_zero]
  refine ⟨fun j w1 hj hC => by
    exact Chn.upon_call (C := (fun (_ : Nat) (w2 : World) => PastAt G S M w2 ∧ Below w.heap.size w w2) j) (line_c a ha w1) (fun e2 w2 hh => ⟨hh.1, by rw [hh.2]; exact hC⟩) (fun F hF => by (go_simp <;> exact hF)), ?_⟩
  simp only [Act.put, List.setIfInBounds_toArray, List.set_cons_succ, List.set_cons_zero]
  refine ⟨fun j w1 hj hC => by
    have z := hC.1.ml.look hline
    exact Chn.upon_pure hC (fun F hF => by (go_simp <;> exact hF)), ?_⟩
  simp only [Act.put, List.setIfInBounds_toArray, List.set_cons_succ, List.set_cons_zero]
  refine ⟨fun j w1 hj hC => by exact Chn.upon_pure hC (fun F hF => by (go_simp <;> exact hF)), ?_⟩
  simp only [Act.put, List.setIfInBounds_toArray, List.set_cons_succ, List.set_cons_zero]
  refine ⟨fun j w1 hj hC => by exact Chn.upon_pure hC (fun F hF => by (go_simp <;> exact hF)), ?_⟩
  simp only [Act.put, List.setIfInBounds_toArray, List.set_cons_succ, List.set_cons_zero]
  refine ⟨fun j w1 hj hC => by exact Chn.upon_pure hC (fun F hF => by (go_simp <;> exact hF)), ?_⟩
  simp only [Act.put, List.setIfInBounds_toArray, List.set_cons_succ, List.set_cons_zero]
  refine ⟨fun j w1 hj hC => by exact Chn.upon_pure hC (fun F hF => by (go_simp <;> exact hF)), ?_⟩
  simp only [Act.put, List.setIfInBounds_toArray, List.set_cons_succ, List.set_cons_zero]
  refine ⟨fun j w1 hj hC => by
    have z := (by omega : (c : Int) < 8)
    exact Chn.upon_pure hC (fun F hF => by (go_simp <;> exact hF)), ?_⟩
  simp only [Act.put, List.setIfInBounds_toArray, List.set_cons_succ, List.set_cons_zero]
  refine ⟨fun j w1 hj hC => by
    have z := hC.1.isb hc
    exact Chn.upon_pure hC (fun F hF => by (go_simp <;> exact hF)), ?_⟩
  simp only [Act.put, List.setIfInBounds_toArray, List.set_cons_succ, List.set_cons_zero]
  refine ⟨fun j w1 hj hC => by
    exact Chn.upon_call (C := (fun (_ : Nat) (w2 : World) => PastAt G S M w2 ∧ Below w.heap.size w w2) j) ((lastAhead_c (ints_of_own (hC.1.row (.ln (lineN a)))) (hR (.ln (lineN a))) (S.isb c : Nat))) (fun e2 w2 hh => ⟨hh.1, by rw [hh.2]; exact hC⟩) (fun F hF => by (go_simp <;> exact hF)), ?_⟩
  simp only [Act.put, List.setIfInBounds_toArray, List.set_cons_succ, List.set_cons_zero]
  refine ⟨fun j w1 hj hC => by exact Chn.upon_pure hC (fun F hF => by (go_simp <;> exact hF)), ?_⟩
  simp only [Act.put, List.setIfInBounds_toArray, List.set_cons_succ, List.set_cons_zero]
  refine ⟨fun j w1 hj hC => by exact Chn.upon_pure hC (fun F hF => by (go_simp <;> exact hF)), ?_⟩
  simp only [Act.put, List.setIfInBounds_toArray, List.set_cons_succ, List.set_cons_zero]
  refine ⟨fun j w1 hj hC => by exact Chn.upon_pure hC (fun F hF => by (go_simp <;> exact hF)), ?_⟩
  simp only [Act.put, List.setIfInBounds_toArray, List.set_cons_succ, List.set_cons_zero]
  refine ⟨fun j w1 hj hC => by
    have z := hC.1.c3
    exact Chn.upon_pure hC (fun F hF => by (go_simp <;> exact hF)), ?_⟩
  simp only [Act.put, List.setIfInBounds_toArray, List.set_cons_succ, List.set_cons_zero]
  refine ⟨fun j w1 hj hC => by exact Chn.upon_pure hC (fun F hF => by (go_simp <;> exact hF)), ?_⟩
  simp only [Act.put, List.setIfInBounds_toArray, List.set_cons_succ, List.set_cons_zero]
  refine ⟨fun j w1 hj hC => by exact Chn.upon_pure hC (fun F hF => by (go_simp <;> exact hF)), ?_⟩
  simp only [Act.put, List.setIfInBounds_toArray, List.set_cons_succ, List.set_cons_zero]
  refine ⟨fun j w1 hj hC => by exact Chn.upon_pure hC (fun F hF => by (go_simp <;> exact hF)), ?_⟩
  simp only [Act.put, List.setIfInBounds_toArray, List.set_cons_succ, List.set_cons_zero]
  refine ⟨fun j w1 hj hC => by exact Chn.upon_pure hC (fun F hF => by (go_simp <;> exact hF)), ?_⟩
  simp only [Act.put, List.setIfInBounds_toArray, List.set_cons_succ, List.set_cons_zero]
  refine ⟨fun j w1 hj hC => by
    have z := (by omega : (c : Int) < 8)
    exact Chn.upon_pure hC (fun F hF => by (go_simp <;> exact hF)), ?_⟩
  simp only [Act.put, List.setIfInBounds_toArray, List.set_cons_succ, List.set_cons_zero]
  refine ⟨fun j w1 hj hC => by
    have z := hC.1.isb hc
    exact Chn.upon_pure hC (fun F hF => by (go_simp <;> exact hF)), ?_⟩
  simp only [Act.put, List.setIfInBounds_toArray, List.set_cons_succ, List.set_cons_zero]
  refine ⟨fun j w1 hj hC => by
    exact Chn.upon_call (C := (fun (_ : Nat) (w2 : World) => PastAt G S M w2 ∧ Below w.heap.size w w2) j) ((lastAhead_c (ints_of_own (hC.1.row (.al))) (hR (.al)) (S.isb c : Nat))) (fun e2 w2 hh => ⟨hh.1, by rw [hh.2]; exact hC⟩) (fun F hF => by (go_simp <;> exact hF)), ?_⟩
  simp only [Act.put, List.setIfInBounds_toArray, List.set_cons_succ, List.set_cons_zero]
  refine ⟨fun j w1 hj hC => by exact Chn.upon_int hC (if lastN (S.ms (.ln (lineN a))) (S.isb c) < lastN (S.ms .al) (S.isb c) then lastN (S.ms .al) (S.isb c) else lastN (S.ms (.ln (lineN a))) (S.isb c)) (by unfold Pst.noted; split <;> omega) (fun F hF => by (go_simp <;> exact hF)), ?_⟩
  simp only [Act.put, List.setIfInBounds_toArray, List.set_cons_succ, List.set_cons_zero]
  refine ⟨fun j w1 hj hC => by exact Chn.upon_pure hC (fun F hF => by (go_simp <;> exact hF)), ?_⟩
  simp only [Act.put, List.setIfInBounds_toArray, List.set_cons_succ, List.set_cons_zero]
  intro w5 hC

  obtain ⟨P5, B5⟩ := hC
  have d1 := P5.c1
  have lk := P5.mw.look ha
  have kc := countAhead_c (ints_of_own (P5.row (.wr a))) (hR (.wr a)) (S.noted c a)
  go_wp2_with (first | (go_at_call 39; with_reducible refine kc.mono ?_; clear kc; rintro e2 w2 ⟨rfl, rfl⟩; dsimp only))
  go_ret
  exact ⟨rfl, B5⟩

def mayS (S : Pst) (c a x f : Nat) : Bool := (S.lost c a == 0 && x == f) || (decide (0 < S.new a x) && decide (S.lost c a ≤ S.new a x))
set_option maxHeartbeats 1000000 in
theorem may_c {G : Gh} {S : Pst} {M : Nat} {w : World} (P : PastAt G S M w) {b : Nat} (hR : ∀ s, Ris b (S.ms s)) {n : Nt} (ok : NtOk n) {c : Nat} (hcore : n.core = c) (hc : c < 8) {f : Nat} : Calls Try.prog 44 #[ptr G.p 0, ntV n, v32 f] w fun e w' => e = .returned (.bool (mayS S c n.addr n.word f)) ∧ Below w.heap.size w w' := by
  have P1 := P.grow (below_alloc w (.cells (ntA n) 34))
  have L1 := LocN.new w n
  have B1 := below_alloc w (.cells (ntA n) 34)
  obtain ⟨Z, hZ⟩ : ∃ Z, mayS S c n.addr n.word f = Z := ⟨_, rfl⟩
  rw [hZ]
  unfold mayS at hZ
  go_enter Try.func44, Try.ntmps44
  go_upto_region 1 with fail
  generalize w.alloc (.cells (ntA n) 34) = w' at *
  have hst : (fun (_ : Nat) (w2 : World) => PastAt G S M w2 ∧ LocN w.heap.size n w2 ∧ Below w.heap.size w w2) 0 _ := ⟨P1.grow (Rel.below_draws (n := 1) (Below.refl _ _)), L1.grow (Rel.below_draws (n := 1) (Below.refl _ _)), B1.trans ((Rel.below_draws (n := 1) (Below.refl _ _)).mono B1.size)⟩
  refine Chn.wp_region_chainL (fun (_ : Nat) (w2 : World) => PastAt G S M w2 ∧ LocN w.heap.size n w2 ∧ Below w.heap.size w w2) [] [0, 0, 0, 0, 0, 0, 0, 0, 0, 0, 0, 0, 0, 0, 0, 0, 0, 0] [ptr G.p 0, ptr w.heap.size 1, vI c, ptr w.heap.size 2, vU n.addr, vI (S.lost c n.addr), ptr G.p 0, ptr G.p 0, ptr G.p 12, .map (some G.bn), ptr w.heap.size 2, vU n.addr, ptr w.heap.size 3, v32 n.word, .agg #[vU n.addr, v32 n.word], vI (S.new n.addr n.word), vI (S.lost c n.addr), vI (S.new n.addr n.word)] (by kernel_rfl) (by kernel_rfl) (by kernel_rfl) (by kernel_rfl) (by kernel_rfl) hst ?_
  clear hst
  refine ⟨fun j w1 hj hC => by exact Chn.upon_pure hC (fun F hF => by (go_simp <;> exact hF)), ?_⟩
  simp only [Act.put, List.setIfInBounds_toArray, List.set_cons_succ, List.set_cons_zero]
  refine ⟨fun j w1 hj hC => by exact Chn.upon_pure hC (fun F hF => by (go_simp <;> exact hF)), ?_⟩
  simp only [Act.put, List.setIfInBounds_toArray, List.set_cons_succ, List.set_cons_zero]
  refine ⟨fun j w1 hj hC => by
    have z := hcore ▸ hC.2.1.c1
    exact Chn.upon_pure hC (fun F hF => by (go_simp <;> exact hF)), ?_⟩
  simp only [Act.put, List.setIfInBounds_toArray, List.set_cons_succ, List.set_cons_zero]
  refine ⟨fun j w1 hj hC => by exact Chn.upon_pure hC (fun F hF => by (go_simp <;> exact hF)), ?_⟩
  simp only [Act.put, List.setIfInBounds_toArray, List.set_cons_succ, List.set_cons_zero]
  refine ⟨fun j w1 hj hC => by
    have z := hC.2.1.c2
    exact Chn.upon_pure hC (fun F hF => by (go_simp <;> exact hF)), ?_⟩
  simp only [Act.put, List.setIfInBounds_toArray, List.set_cons_succ, List.set_cons_zero]
  refine ⟨fun j w1 hj hC => by
    exact Chn.upon_call (C := (fun (_ : Nat) (w2 : World) => PastAt G S M w2 ∧ LocN w.heap.size n w2 ∧ Below w.heap.size w w2) j) (lost_c hC.1 hR hc ok.addr) (fun e2 w2 hh => ⟨hh.1, hC.1.grow hh.2, hC.2.1.grow hh.2, hC.2.2.trans (hh.2.mono hC.2.2.size)⟩) (fun F hF => by (go_simp <;> exact hF)), ?_⟩
  simp only [Act.put, List.setIfInBounds_toArray, List.set_cons_succ, List.set_cons_zero]
  refine ⟨fun j w1 hj hC => by exact Chn.upon_pure hC (fun F hF => by (go_simp <;> exact hF)), ?_⟩
  simp only [Act.put, List.setIfInBounds_toArray, List.set_cons_succ, List.set_cons_zero]
  refine ⟨fun j w1 hj hC => by exact Chn.upon_pure hC (fun F hF => by (go_simp <;> exact hF)), ?_⟩
  simp only [Act.put, List.setIfInBounds_toArray, List.set_cons_succ, List.set_cons_zero]
  refine ⟨fun j w1 hj hC => by exact Chn.upon_pure hC (fun F hF => by (go_simp <;> exact hF)), ?_⟩
  simp only [Act.put, List.setIfInBounds_toArray, List.set_cons_succ, List.set_cons_zero]
  refine ⟨fun j w1 hj hC => by
    have z := hC.1.c5
    exact Chn.upon_pure hC (fun F hF => by (go_simp <;> exact hF)), ?_⟩
  simp only [Act.put, List.setIfInBounds_toArray, List.set_cons_succ, List.set_cons_zero]
  refine ⟨fun j w1 hj hC => by exact Chn.upon_pure hC (fun F hF => by (go_simp <;> exact hF)), ?_⟩
  simp only [Act.put, List.setIfInBounds_toArray, List.set_cons_succ, List.set_cons_zero]
  refine ⟨fun j w1 hj hC => by
    have z := hC.2.1.c2
    exact Chn.upon_pure hC (fun F hF => by (go_simp <;> exact hF)), ?_⟩
  simp only [Act.put, List.setIfInBounds_toArray, List.set_cons_succ, List.set_cons_zero]
  refine ⟨fun j w1 hj hC => by exact Chn.upon_pure hC (fun F hF => by (go_simp <;> exact hF)), ?_⟩
  simp only [Act.put, List.setIfInBounds_toArray, List.set_cons_succ, List.set_cons_zero]
  refine ⟨fun j w1 hj hC => by
    have z := hC.2.1.c3
    exact Chn.upon_pure hC (fun F hF => by (go_simp <;> exact hF)), ?_⟩
  simp only [Act.put, List.setIfInBounds_toArray, List.set_cons_succ, List.set_cons_zero]
  refine ⟨fun j w1 hj hC => by exact Chn.upon_pure hC (fun F hF => by (go_simp <;> exact hF)), ?_⟩
  simp only [Act.put, List.setIfInBounds_toArray, List.set_cons_succ, List.set_cons_zero]
  refine ⟨fun j w1 hj hC => by
    have z := hC.1.mn.look ok.addr ok.word
    exact Chn.upon_pure hC (fun F hF => by (go_simp <;> exact hF)), ?_⟩
  simp only [Act.put, List.setIfInBounds_toArray, List.set_cons_succ, List.set_cons_zero]
  refine ⟨fun j w1 hj hC => by exact Chn.upon_pure hC (fun F hF => by (go_simp <;> exact hF)), ?_⟩
  simp only [Act.put, List.setIfInBounds_toArray, List.set_cons_succ, List.set_cons_zero]
  refine ⟨fun j w1 hj hC => by exact Chn.upon_pure hC (fun F hF => by (go_simp <;> exact hF)), ?_⟩
  simp only [Act.put, List.setIfInBounds_toArray, List.set_cons_succ, List.set_cons_zero]
  intro w5 hC

  obtain ⟨P5, L5, B5⟩ := hC
  have d3 := L5.c3
  clear P5 L5 P1 L1 B1 P
  generalize S.lost c n.addr = lo at hZ ⊢
  generalize S.new n.addr n.word = nw at hZ ⊢
  by_cases h0 : lo = 0
  · subst h0
    by_cases h1 : n.word = f
    · subst h1
      go_wp2
      go_ret
      exact ⟨by rw [← hZ]; simp, B5⟩
    · have g1 : ((n.word : Int) == (f : Int)) = false := beq_eq_false_iff_ne.2 (by omega)
      by_cases h2 : 0 < nw
      · have g2 : (0 : Int) < nw := by omega
        go_wp2
        go_ret
        exact ⟨by rw [← hZ]; simp [h1, h2], B5⟩
      · have g2 : ¬ (0 : Int) < nw := by omega
        go_wp2
        go_ret
        exact ⟨by rw [← hZ]; simp [h1, h2], B5⟩
  · have g0 : ((lo : Int) == 0) = false := beq_eq_false_iff_ne.2 (by omega)
    by_cases h2 : 0 < nw
    · have g2 : (0 : Int) < nw := by omega
      go_wp2
      go_ret
      exact ⟨by rw [← hZ]; simp [h0, h2], B5⟩
    · have g2 : ¬ (0 : Int) < nw := by omega
      go_wp2
      go_ret
      exact ⟨by rw [← hZ]; simp [h0, h2], B5⟩
end Go.Proofs.Ytbdmemjenpnjgaa
