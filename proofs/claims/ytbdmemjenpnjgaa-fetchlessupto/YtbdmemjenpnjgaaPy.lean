/- add: an NIsb, and any note. -/
import Derived.Test.YtbdmemjenpnjgaaPx
namespace Go.Proofs.Ytbdmemjenpnjgaa
open Go.RowKit
set_option linter.unusedVariables false
set_option linter.unusedSimpArgs false
set_option maxRecDepth 8000

open Go.Shelf Go.Maps

def IsC (G : Gh) (S : Pst) (M t : Nat) (n : Nt) (w : World) (c : Nat) : Nat → World → Prop
  | 0, w' => PastAt G S M w' ∧ LocN t n w' ∧ Goes (Foot G) w w'
  | 1, w' => PastAt G { S with isb := fun k => if (k : Int) = c then S.now else S.isb k } M w' ∧ Goes (Foot G) w w'
  | _, _ => False
section
variable {G : Gh} {S : Pst} {M t c : Nat} {n : Nt} {w w1 : World} {j : Nat}
theorem isC_core (h : IsC G S M t n w c j w1) (hj : j ≤ 0) (hc : n.core = c) : w1.cell? ⟨t, 1, none⟩ = some (vI c) := by
  obtain rfl : j = 0 := by omega
  rw [← hc]; exact h.2.1.c1
theorem isC_now (h : IsC G S M t n w c j w1) (hj : j ≤ 0) : w1.cell? ⟨G.p, 0, none⟩ = some (vI S.now) := by
  obtain rfl : j = 0 := by omega
  exact h.1.c0
theorem isC_end (h : IsC G S M t n w c 0 w1) (hc : c < 8) : IsC G S M t n w c 1 (w1.setCell ⟨G.p, 4 + c, none⟩ (vI S.now)) := by
  obtain ⟨q1, q2⟩ := h.1.cellP (4 + c) (vI S.now) { S with isb := fun k => if (k : Int) = c then S.now else S.isb k } (by
    match c, hc with
    | 0, _ => rfl
    | 1, _ => rfl
    | 2, _ => rfl
    | 3, _ => rfl
    | 4, _ => rfl
    | 5, _ => rfl
    | 6, _ => rfl
    | 7, _ => rfl
    | c + 8, h => omega) rfl rfl
  exact ⟨q1, h.2.2.trans q2 fun _ _ e => e⟩
theorem isC_start {w0 : World} (P : PastAt G S M w1) (L : LocN t n w1) (hB : Below w0.heap.size w0 w1) : IsC G S M t n w0 c 0 { w1 with drawn := w1.drawn + 1 } :=
  ⟨P.grow (Rel.below_draws (n := 1) (Below.refl _ _)), L.grow (Rel.below_draws (n := 1) (Below.refl _ _)), (goes_of_below hB).grow (Rel.below_draws (n := 1) (Below.refl _ _))⟩
end
set_option maxHeartbeats 2000000 in
theorem add_isb {G : Gh} {S : Pst} {M : Nat} {n : Nt} {w0 : World} (P0 : PastAt G S M w0) (ok : NtOk n) (hM : M < 10000000000000) (hN : S.now < 10000000000000) (hk : n.kind = 4) (hc0 : 0 ≤ n.core) (hc8 : n.core < 8) : Calls Try.prog 29 #[ptr G.p 0, ntV n] w0 fun e w' => AddR G (S.add n) (M + 2) w0 e w' := by
  have P1 := P0.grow (below_alloc w0 (.cells (ntA n) 34))
  have L1 := LocN.new w0 n
  have B1 := below_alloc w0 (.cells (ntA n) 34)
  have hline : lineN n.addr < 18446744073709551616 := by have := ok.addr; unfold lineN; omega
  go_enter Try.func29, Try.ntmps29
  go_upto_region 1 with fail
  generalize w0.alloc (.cells (ntA n) 34) = w at *
  have c0 := L1.c0
  rw [hk] at c0
  go_upto_region 10 with fail

  obtain ⟨c, hc⟩ : ∃ c : Nat, n.core = c := ⟨n.core.toNat, by omega⟩
  have hc8' : c < 8 := by omega
  have hst : (IsC G S M w0.heap.size n w0 c) 0 _ := isC_start P1 L1 B1
  refine Chn.wp_region_chainL (IsC G S M w0.heap.size n w0 c) [10] [1, 1, 0, 1, 1, 1, 0, 1, 1, 1, 1] [ptr G.p 0, ptr w0.heap.size 1, vI c, ptr G.p 0, ptr G.p 0, ptr G.p 0, vI S.now, ptr G.p 0, ptr G.p 4, ptr G.p (4 + c), undef] (by kernel_rfl) (by kernel_rfl) (by kernel_rfl) (by kernel_rfl) (by kernel_rfl) hst ?_
  clear hst
  refine ⟨fun j w1 hj hC => by exact Chn.upon_pure hC (fun F hF => by (go_simp <;> exact hF)), ?_⟩
  simp only [Act.put, List.setIfInBounds_toArray, List.set_cons_succ, List.set_cons_zero]
  refine ⟨fun j w1 hj hC => by exact Chn.upon_pure hC (fun F hF => by (go_simp <;> exact hF)), ?_⟩
  simp only [Act.put, List.setIfInBounds_toArray, List.set_cons_succ, List.set_cons_zero]
  refine ⟨fun j w1 hj hC => by
    have z := isC_core hC (Nat.le_trans hj (by decide)) hc
    exact Chn.upon_pure hC (fun F hF => by (go_simp <;> exact hF)), ?_⟩
  simp only [Act.put, List.setIfInBounds_toArray, List.set_cons_succ, List.set_cons_zero]
  refine ⟨fun j w1 hj hC => by exact Chn.upon_pure hC (fun F hF => by (go_simp <;> exact hF)), ?_⟩
  simp only [Act.put, List.setIfInBounds_toArray, List.set_cons_succ, List.set_cons_zero]
  refine ⟨fun j w1 hj hC => by exact Chn.upon_pure hC (fun F hF => by (go_simp <;> exact hF)), ?_⟩
  simp only [Act.put, List.setIfInBounds_toArray, List.set_cons_succ, List.set_cons_zero]
  refine ⟨fun j w1 hj hC => by exact Chn.upon_pure hC (fun F hF => by (go_simp <;> exact hF)), ?_⟩
  simp only [Act.put, List.setIfInBounds_toArray, List.set_cons_succ, List.set_cons_zero]
  refine ⟨fun j w1 hj hC => by
    have z := isC_now hC (Nat.le_trans hj (by decide))
    exact Chn.upon_pure hC (fun F hF => by (go_simp <;> exact hF)), ?_⟩
  simp only [Act.put, List.setIfInBounds_toArray, List.set_cons_succ, List.set_cons_zero]
  refine ⟨fun j w1 hj hC => by exact Chn.upon_pure hC (fun F hF => by (go_simp <;> exact hF)), ?_⟩
  simp only [Act.put, List.setIfInBounds_toArray, List.set_cons_succ, List.set_cons_zero]
  refine ⟨fun j w1 hj hC => by exact Chn.upon_pure hC (fun F hF => by (go_simp <;> exact hF)), ?_⟩
  simp only [Act.put, List.setIfInBounds_toArray, List.set_cons_succ, List.set_cons_zero]
  refine ⟨fun j w1 hj hC => by
    have z := (by omega : (c : Int) < 8)
    exact Chn.upon_pure hC (fun F hF => by (go_simp <;> exact hF)), ?_⟩
  simp only [Act.put, List.setIfInBounds_toArray, List.set_cons_succ, List.set_cons_zero]
  refine ⟨fun w1 hC => by
    exact chn_store 3 _ _ rfl G.p (4 + c) rfl _ rfl (run_cell w1 3 G.p (4 + c) _ _ inf3 rfl rfl (hC.1.isb hc8') (hC.1.fz _)) (isC_end hC hc8'), ?_⟩
  simp only [Act.put, List.setIfInBounds_toArray, List.set_cons_succ, List.set_cons_zero]
  intro w5 hC

  obtain ⟨P5, hG5⟩ := hC
  have hend : AddR G (S.add n) (M + 2) w0 (.returned (.tuple #[])) (w5.setCell ⟨G.p, 0, none⟩ (vI (S.now + 1 : Nat))) := by
    have z := add_end (G := G) (G' := G) (S' := S.add n) ⟨rfl, rfl, rfl, rfl⟩ (P5.mono (by omega : M ≤ M + 2)) hG5 (fun _ e => .inl e) (by rw [eq_isb hk, hc])
    exact z
  have d0 : w5.cell? ⟨G.p, 0, none⟩ = some (vI S.now) := P5.c0
  have df : w5.frozen? ⟨G.p, 0, none⟩ = false := P5.fz 0
  clear P5 hG5 P1 L1 B1 P0 c0
  have hw : wrap64 ((S.now : Int) + 1) = ((S.now + 1 : Nat) : Int) := by unfold wrap64; omega
  go_wp2
  go_end0
  exact hend

theorem add_no {G : Gh} {S : Pst} {M : Nat} {n : Nt} {w0 : World} (P0 : PastAt G S M w0) (hN : S.now < 10000000000000) (h1 : n.kind ≠ 1) (h2 : n.kind ≠ 2) (h3 : n.kind ≠ 3) (h4 : n.kind ≠ 4) : Calls Try.prog 29 #[ptr G.p 0, ntV n] w0 fun e w' => AddR G (S.add n) (M + 2) w0 e w' := by
  have P1 := P0.grow (below_alloc w0 (.cells (ntA n) 34))
  have L1 := LocN.new w0 n
  have B1 := below_alloc w0 (.cells (ntA n) 34)
  have k1 : (n.kind == 1) = false := beq_eq_false_iff_ne.2 h1
  have k2 : (n.kind == 2) = false := beq_eq_false_iff_ne.2 h2
  have k3 : (n.kind == 3) = false := beq_eq_false_iff_ne.2 h3
  have k4 : (n.kind == 4) = false := beq_eq_false_iff_ne.2 h4
  go_enter Try.func29, Try.ntmps29
  go_upto_region 1 with fail
  generalize w0.alloc (.cells (ntA n) 34) = w5 at *
  have c0 := L1.c0
  have hend : AddR G (S.add n) (M + 2) w0 (.returned (.tuple #[])) (w5.setCell ⟨G.p, 0, none⟩ (vI (S.now + 1 : Nat))) := by
    have z := add_end (G := G) (G' := G) (S' := S.add n) ⟨rfl, rfl, rfl, rfl⟩ (P1.mono (by omega : M ≤ M + 2)) (goes_of_below B1) (fun _ e => .inl e) (eq_no h1 h2 h3 h4)
    exact z
  have d0 : w5.cell? ⟨G.p, 0, none⟩ = some (vI S.now) := P1.c0
  have df : w5.frozen? ⟨G.p, 0, none⟩ = false := P1.fz 0
  clear P1 L1 B1 P0 h1 h2 h3 h4
  have hw : wrap64 ((S.now : Int) + 1) = ((S.now + 1 : Nat) : Int) := by unfold wrap64; omega
  go_wp2
  go_end0
  exact hend
theorem add_c {G : Gh} {S : Pst} {M : Nat} {n : Nt} {w0 : World} (P0 : PastAt G S M w0) (ok : NtOk n) (hM : M < 10000000000000) (hN : S.now < 10000000000000) (hc : n.kind = 4 → 0 ≤ n.core ∧ n.core < 8) : Calls Try.prog 29 #[ptr G.p 0, ntV n] w0 fun e w' => AddR G (S.add n) (M + 2) w0 e w' := by
  by_cases h1 : n.kind = 1
  · exact add_wr P0 ok hM hN h1
  by_cases h2 : n.kind = 2
  · exact add_ln P0 ok hM hN h2
  by_cases h3 : n.kind = 3
  · exact add_al P0 ok hM hN h3
  by_cases h4 : n.kind = 4
  · exact add_isb P0 ok hM hN h4 (hc h4).1 (hc h4).2
  exact add_no P0 hN h1 h2 h3 h4
end Go.Proofs.Ytbdmemjenpnjgaa
