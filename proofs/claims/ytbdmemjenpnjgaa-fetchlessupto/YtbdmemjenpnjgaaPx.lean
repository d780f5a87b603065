/- add: an NWrite. -/
import Derived.Test.YtbdmemjenpnjgaaPw
namespace Go.Proofs.Ytbdmemjenpnjgaa
open Go.RowKit
set_option linter.unusedVariables false
set_option linter.unusedSimpArgs false
set_option maxRecDepth 8000

open Go.Shelf Go.Maps

/-- Behind the append to a row of an address, ahead of the mark of its word. -/
def WrC (G : Gh) (S : Pst) (M : Nat) (u : Value) (t : Nat) (n : Nt) (w : World) : Nat → World → Prop
  | 0, w' => PastAt (G.set (.wr n.addr) u) (S.put (.wr n.addr) (S.ms (.wr n.addr) ++ [S.now])) (M + 1) w' ∧ LocN t n w' ∧ Goes (Foot G) w w' ∧ ∀ k, Foot (G.set (.wr n.addr) u) k → Foot G k ∨ w.heap.size ≤ k
  | 1, w' => PastAt (G.set (.wr n.addr) u) { S.put (.wr n.addr) (S.ms (.wr n.addr) ++ [S.now]) with new := fun a x => if a = n.addr ∧ x = n.word then (S.ms (.wr n.addr)).length + 1 else S.new a x } (M + 1 + 1) w' ∧ Goes (Foot G) w w' ∧ ∀ k, Foot (G.set (.wr n.addr) u) k → Foot G k ∨ w.heap.size ≤ k
  | _, _ => False
section
variable {G : Gh} {S : Pst} {M : Nat} {u : Value} {t : Nat} {n : Nt} {w w1 : World} {j : Nat}
theorem wrC_0 (h : WrC G S M u t n w j w1) (hj : j ≤ 0) : WrC G S M u t n w 0 w1 := by
  obtain rfl : j = 0 := by omega
  exact h
theorem wrC_c5 (h : WrC G S M u t n w j w1) (hj : j ≤ 0) : w1.cell? ⟨G.p, 12, none⟩ = some (.map (some G.bn)) := by
  obtain rfl : j = 0 := by omega
  exact h.1.c5
theorem wrC_c1 (h : WrC G S M u t n w j w1) (hj : j ≤ 0) : w1.cell? ⟨G.p, 1, none⟩ = some (.map (some G.bw)) := by
  obtain rfl : j = 0 := by omega
  exact h.1.c1
theorem wrC_loc (h : WrC G S M u t n w j w1) (hj : j ≤ 0) : LocN t n w1 := by
  obtain rfl : j = 0 := by omega
  exact h.2.1
theorem wrC_look (h : WrC G S M u t n w j w1) (hj : j ≤ 0) (ha : n.addr < 18446744073709551616) : (Instr.lookup 65 (.map (some G.bw)) (vU n.addr) false).run Try.prog w1 = .ok u w1 := by
  obtain rfl : j = 0 := by omega
  have := h.1.mw.look ha
  simpa [Gh.set] using this
theorem wrC_start (P : PastAt (G.set (.wr n.addr) u) (S.put (.wr n.addr) (S.ms (.wr n.addr) ++ [S.now])) (M + 1) w1) (L : LocN t n w1) (hg : Goes (Foot G) w w1) (hF : ∀ k, Foot (G.set (.wr n.addr) u) k → Foot G k ∨ w.heap.size ≤ k) : WrC G S M u t n w 0 { w1 with drawn := w1.drawn + 1 } :=
  ⟨P.grow (Rel.below_draws (n := 1) (Below.refl _ _)), L.grow (Rel.below_draws (n := 1) (Below.refl _ _)), hg.grow (Rel.below_draws (n := 1) (Below.refl _ _)), hF⟩
end
set_option maxHeartbeats 2000000 in
theorem add_wr {G : Gh} {S : Pst} {M : Nat} {n : Nt} {w0 : World} (P0 : PastAt G S M w0) (ok : NtOk n) (hM : M < 10000000000000) (hN : S.now < 10000000000000) (hk : n.kind = 1) : Calls Try.prog 29 #[ptr G.p 0, ntV n] w0 fun e w' => AddR G (S.add n) (M + 2) w0 e w' := by
  have P1 := P0.grow (below_alloc w0 (.cells (ntA n) 34))
  have L1 := LocN.new w0 n
  have B1 := below_alloc w0 (.cells (ntA n) 34)
  have hline : lineN n.addr < 18446744073709551616 := by have := ok.addr; unfold lineN; omega
  go_enter Try.func29, Try.ntmps29
  go_upto_region 1 with fail
  generalize w0.alloc (.cells (ntA n) 34) = w at *
  have c0 := L1.c0
  rw [hk] at c0
  go_upto_region 3 with fail
  have hst : (AdC G S M (.wr n.addr) S.now w0.heap.size n w w.heap.size) 0 none _ := adC_start P1 L1
  refine Chn.wp_region_chainX (AdC G S M (.wr n.addr) S.now w0.heap.size n w w.heap.size) [17, 18, 19] [3, 3, 3, 2, 3, 2, 3, 3, 3, 2, 3, 2, 1, 3, 3, 3, 0, 3, 3, 3] 18 (fun u => [ptr G.p 0, ptr G.p 0, ptr G.p 1, .map (some G.bw), ptr w0.heap.size 2, vU n.addr, ptr G.p 0, ptr G.p 0, ptr G.p 1, .map (some G.bw), ptr w0.heap.size 2, vU n.addr, G.val (.wr n.addr), ptr G.p 0, ptr G.p 0, ptr G.p 0, vI S.now, .slice (some ⟨w.heap.size, 0, none⟩) 1 1, u, undef]) (by kernel_rfl) (by kernel_rfl) (by kernel_rfl) (by kernel_rfl) (by kernel_rfl) (by kernel_rfl) (fun v q hq => by match q, hq with | 0, _ => rfl | 1, _ => rfl | 2, _ => rfl | 3, _ => rfl | 4, _ => rfl | 5, _ => rfl | 6, _ => rfl | 7, _ => rfl | 8, _ => rfl | 9, _ => rfl | 10, _ => rfl | 11, _ => rfl | 12, _ => rfl | 13, _ => rfl | 14, _ => rfl | 15, _ => rfl | 16, _ => rfl | 17, _ => rfl | 19, _ => rfl | n + 20, _ => rfl) (fun v => rfl) (by decide) hst ?_
  clear hst
  intro u
  refine ⟨fun j ou w1 hj hn hC => by exact Chn.upon_pure hC (fun F hF => by (go_simp <;> exact hF)), ?_⟩
  simp only [Act.put, List.setIfInBounds_toArray, List.set_cons_succ, List.set_cons_zero]
  refine ⟨fun j ou w1 hj hn hC => by exact Chn.upon_pure hC (fun F hF => by (go_simp <;> exact hF)), ?_⟩
  simp only [Act.put, List.setIfInBounds_toArray, List.set_cons_succ, List.set_cons_zero]
  refine ⟨fun j ou w1 hj hn hC => by exact Chn.upon_pure hC (fun F hF => by (go_simp <;> exact hF)), ?_⟩
  simp only [Act.put, List.setIfInBounds_toArray, List.set_cons_succ, List.set_cons_zero]
  refine ⟨fun j ou w1 hj hn hC => by
    have z := adC_c hC (Nat.le_trans hj (by decide)) 1
    exact Chn.upon_pure hC (fun F hF => by (go_simp <;> exact hF)), ?_⟩
  simp only [Act.put, List.setIfInBounds_toArray, List.set_cons_succ, List.set_cons_zero]
  refine ⟨fun j ou w1 hj hn hC => by exact Chn.upon_pure hC (fun F hF => by (go_simp <;> exact hF)), ?_⟩
  simp only [Act.put, List.setIfInBounds_toArray, List.set_cons_succ, List.set_cons_zero]
  refine ⟨fun j ou w1 hj hn hC => by
    have z := (adC_loc hC (Nat.le_trans hj (by decide))).c2
    exact Chn.upon_pure hC (fun F hF => by (go_simp <;> exact hF)), ?_⟩
  simp only [Act.put, List.setIfInBounds_toArray, List.set_cons_succ, List.set_cons_zero]
  refine ⟨fun j ou w1 hj hn hC => by exact Chn.upon_pure hC (fun F hF => by (go_simp <;> exact hF)), ?_⟩
  simp only [Act.put, List.setIfInBounds_toArray, List.set_cons_succ, List.set_cons_zero]
  refine ⟨fun j ou w1 hj hn hC => by exact Chn.upon_pure hC (fun F hF => by (go_simp <;> exact hF)), ?_⟩
  simp only [Act.put, List.setIfInBounds_toArray, List.set_cons_succ, List.set_cons_zero]
  refine ⟨fun j ou w1 hj hn hC => by exact Chn.upon_pure hC (fun F hF => by (go_simp <;> exact hF)), ?_⟩
  simp only [Act.put, List.setIfInBounds_toArray, List.set_cons_succ, List.set_cons_zero]
  refine ⟨fun j ou w1 hj hn hC => by
    have z := adC_c hC (Nat.le_trans hj (by decide)) 1
    exact Chn.upon_pure hC (fun F hF => by (go_simp <;> exact hF)), ?_⟩
  simp only [Act.put, List.setIfInBounds_toArray, List.set_cons_succ, List.set_cons_zero]
  refine ⟨fun j ou w1 hj hn hC => by exact Chn.upon_pure hC (fun F hF => by (go_simp <;> exact hF)), ?_⟩
  simp only [Act.put, List.setIfInBounds_toArray, List.set_cons_succ, List.set_cons_zero]
  refine ⟨fun j ou w1 hj hn hC => by
    have z := (adC_loc hC (Nat.le_trans hj (by decide))).c2
    exact Chn.upon_pure hC (fun F hF => by (go_simp <;> exact hF)), ?_⟩
  simp only [Act.put, List.setIfInBounds_toArray, List.set_cons_succ, List.set_cons_zero]
  refine ⟨fun j ou w1 hj hn hC => by
    have z := (adC_past hC (Nat.le_trans hj (by decide))).mw.look ok.addr
    exact Chn.upon_pure hC (fun F hF => by (go_simp <;> exact hF)), ?_⟩
  simp only [Act.put, List.setIfInBounds_toArray, List.set_cons_succ, List.set_cons_zero]
  refine ⟨fun j ou w1 hj hn hC => by exact Chn.upon_pure hC (fun F hF => by (go_simp <;> exact hF)), ?_⟩
  simp only [Act.put, List.setIfInBounds_toArray, List.set_cons_succ, List.set_cons_zero]
  refine ⟨fun j ou w1 hj hn hC => by exact Chn.upon_pure hC (fun F hF => by (go_simp <;> exact hF)), ?_⟩
  simp only [Act.put, List.setIfInBounds_toArray, List.set_cons_succ, List.set_cons_zero]
  refine ⟨fun j ou w1 hj hn hC => by exact Chn.upon_pure hC (fun F hF => by (go_simp <;> exact hF)), ?_⟩
  simp only [Act.put, List.setIfInBounds_toArray, List.set_cons_succ, List.set_cons_zero]
  refine ⟨fun j ou w1 hj hn hC => by
    have z := adC_c hC (Nat.le_trans hj (by decide)) 0
    exact Chn.upon_pure hC (fun F hF => by (go_simp <;> exact hF)), ?_⟩
  simp only [Act.put, List.setIfInBounds_toArray, List.set_cons_succ, List.set_cons_zero]
  refine ⟨fun ou w1 hn hC => by
    match ou, hC with
    | none, hC => exact chn_build 48 Try.underlying48 hC.2.2.2 (.tmp 24) rfl S.now rfl (adC_new hC), ?_⟩
  simp only [Act.put, List.setIfInBounds_toArray, List.set_cons_succ, List.set_cons_zero]
  refine ⟨fun w1 hC => by
    exact chn_app 48 Try.underlying48 _ _ rfl 0 (G.val (.wr n.addr)) (S.ms (.wr n.addr)) rfl (hC.1.row _) (Nat.zero_le _) w.heap.size 1 S.now rfl hC.2.2.2 (by have := hC.1.len (.wr n.addr); omega) (fun g cap w2 q1 q2 q3 => adC_app hC q1 q2 q3), ?_⟩
  simp only [Act.put, List.setIfInBounds_toArray, List.set_cons_succ, List.set_cons_zero]
  refine ⟨fun ou w1 hn hC => by
    obtain rfl := hn (by kernel_rfl)
    obtain ⟨w2, m, _, L, hB⟩ := hC
    obtain ⟨w3, r1, r2, r3⟩ := m.wr ok.addr (by omega)
    exact chn_put 65 _ _ _ rfl _ _ _ rfl rfl rfl r1 (adC_end m L hB r2 r3), ?_⟩
  simp only [Act.put, List.setIfInBounds_toArray, List.set_cons_succ, List.set_cons_zero]
  intro w5 hC

  obtain ⟨P5, L5, hG5, hF5⟩ := hC
  have hG0 : Goes (Foot G) w0 w5 := (goes_of_below B1).trans hG5 fun _ _ e => e
  have hF0 : ∀ k, Foot (G.set (.wr n.addr) u) k → Foot G k ∨ w0.heap.size ≤ k := fun k hk => (hF5 k hk).imp id fun e => Nat.le_trans B1.size e
  obtain ⟨ao, cap, hu, _⟩ := own_len (P5.row (.wr n.addr))
  have hu : u = .slice ao ((S.ms (.wr n.addr)).length + 1) cap := by simpa [Gh.set, Pst.put] using hu
  subst hu
  clear hG5 hF5 P1 L1 c0 P0 hline
  go_upto_region 4 with fail
  have hst : (WrC G S M (.slice ao ((S.ms (.wr n.addr)).length + 1) cap) w0.heap.size n w0) 0 _ := wrC_start P5 L5 hG0 hF0
  refine Chn.wp_region_chainL (WrC G S M (.slice ao ((S.ms (.wr n.addr)).length + 1) cap) w0.heap.size n w0) [17] [1, 1, 1, 0, 1, 0, 1, 0, 1, 1, 1, 1, 0, 1, 0, 0, 1, 1] [ptr G.p 0, ptr G.p 0, ptr G.p 12, .map (some G.bn), ptr w0.heap.size 2, vU n.addr, ptr w0.heap.size 3, v32 n.word, .agg #[vU n.addr, v32 n.word], ptr G.p 0, ptr G.p 0, ptr G.p 1, .map (some G.bw), ptr w0.heap.size 2, vU n.addr, .slice ao ((S.ms (.wr n.addr)).length + 1) cap, vI ((S.ms (.wr n.addr)).length + 1 : Nat), undef] (by kernel_rfl) (by kernel_rfl) (by kernel_rfl) (by kernel_rfl) (by kernel_rfl) hst ?_
  clear hst
  refine ⟨fun j w1 hj hC => by exact Chn.upon_pure hC (fun F hF => by (go_simp <;> exact hF)), ?_⟩
  simp only [Act.put, List.setIfInBounds_toArray, List.set_cons_succ, List.set_cons_zero]
  refine ⟨fun j w1 hj hC => by exact Chn.upon_pure hC (fun F hF => by (go_simp <;> exact hF)), ?_⟩
  simp only [Act.put, List.setIfInBounds_toArray, List.set_cons_succ, List.set_cons_zero]
  refine ⟨fun j w1 hj hC => by exact Chn.upon_pure hC (fun F hF => by (go_simp <;> exact hF)), ?_⟩
  simp only [Act.put, List.setIfInBounds_toArray, List.set_cons_succ, List.set_cons_zero]
  refine ⟨fun j w1 hj hC => by
    have z := wrC_c5 hC (Nat.le_trans hj (by decide))
    exact Chn.upon_pure hC (fun F hF => by (go_simp <;> exact hF)), ?_⟩
  simp only [Act.put, List.setIfInBounds_toArray, List.set_cons_succ, List.set_cons_zero]
  refine ⟨fun j w1 hj hC => by exact Chn.upon_pure hC (fun F hF => by (go_simp <;> exact hF)), ?_⟩
  simp only [Act.put, List.setIfInBounds_toArray, List.set_cons_succ, List.set_cons_zero]
  refine ⟨fun j w1 hj hC => by
    have z := (wrC_loc hC (Nat.le_trans hj (by decide))).c2
    exact Chn.upon_pure hC (fun F hF => by (go_simp <;> exact hF)), ?_⟩
  simp only [Act.put, List.setIfInBounds_toArray, List.set_cons_succ, List.set_cons_zero]
  refine ⟨fun j w1 hj hC => by exact Chn.upon_pure hC (fun F hF => by (go_simp <;> exact hF)), ?_⟩
  simp only [Act.put, List.setIfInBounds_toArray, List.set_cons_succ, List.set_cons_zero]
  refine ⟨fun j w1 hj hC => by
    have z := (wrC_loc hC (Nat.le_trans hj (by decide))).c3
    exact Chn.upon_pure hC (fun F hF => by (go_simp <;> exact hF)), ?_⟩
  simp only [Act.put, List.setIfInBounds_toArray, List.set_cons_succ, List.set_cons_zero]
  refine ⟨fun j w1 hj hC => by exact Chn.upon_pure hC (fun F hF => by (go_simp <;> exact hF)), ?_⟩
  simp only [Act.put, List.setIfInBounds_toArray, List.set_cons_succ, List.set_cons_zero]
  refine ⟨fun j w1 hj hC => by exact Chn.upon_pure hC (fun F hF => by (go_simp <;> exact hF)), ?_⟩
  simp only [Act.put, List.setIfInBounds_toArray, List.set_cons_succ, List.set_cons_zero]
  refine ⟨fun j w1 hj hC => by exact Chn.upon_pure hC (fun F hF => by (go_simp <;> exact hF)), ?_⟩
  simp only [Act.put, List.setIfInBounds_toArray, List.set_cons_succ, List.set_cons_zero]
  refine ⟨fun j w1 hj hC => by exact Chn.upon_pure hC (fun F hF => by (go_simp <;> exact hF)), ?_⟩
  simp only [Act.put, List.setIfInBounds_toArray, List.set_cons_succ, List.set_cons_zero]
  refine ⟨fun j w1 hj hC => by
    have z := wrC_c1 hC (Nat.le_trans hj (by decide))
    exact Chn.upon_pure hC (fun F hF => by (go_simp <;> exact hF)), ?_⟩
  simp only [Act.put, List.setIfInBounds_toArray, List.set_cons_succ, List.set_cons_zero]
  refine ⟨fun j w1 hj hC => by exact Chn.upon_pure hC (fun F hF => by (go_simp <;> exact hF)), ?_⟩
  simp only [Act.put, List.setIfInBounds_toArray, List.set_cons_succ, List.set_cons_zero]
  refine ⟨fun j w1 hj hC => by
    have z := (wrC_loc hC (Nat.le_trans hj (by decide))).c2
    exact Chn.upon_pure hC (fun F hF => by (go_simp <;> exact hF)), ?_⟩
  simp only [Act.put, List.setIfInBounds_toArray, List.set_cons_succ, List.set_cons_zero]
  refine ⟨fun j w1 hj hC => by
    have z := wrC_look hC (Nat.le_trans hj (by decide)) ok.addr
    exact Chn.upon_pure hC (fun F hF => by (go_simp <;> exact hF)), ?_⟩
  simp only [Act.put, List.setIfInBounds_toArray, List.set_cons_succ, List.set_cons_zero]
  refine ⟨fun j w1 hj hC => by exact Chn.upon_pure hC (fun F hF => by (go_simp <;> exact hF)), ?_⟩
  simp only [Act.put, List.setIfInBounds_toArray, List.set_cons_succ, List.set_cons_zero]
  refine ⟨fun w1 hC => by
    obtain ⟨w3, r1, r2, r3⟩ := hC.1.mark ok.addr ok.word (by omega) ((S.ms (.wr n.addr)).length + 1)
    exact chn_put 66 _ _ _ rfl _ _ _ rfl rfl rfl r1 ⟨r2, hC.2.2.1.trans r3 (fun k hk e => by
    rcases hC.2.2.2 k e with e | e
    · exact e
    · omega), hC.2.2.2⟩, ?_⟩
  simp only [Act.put, List.setIfInBounds_toArray, List.set_cons_succ, List.set_cons_zero]
  intro w6 hC

  obtain ⟨P6, hG6, hF6⟩ := hC
  have hend : AddR G (S.add n) (M + 2) w0 (.returned (.tuple #[])) (w6.setCell ⟨G.p, 0, none⟩ (vI (S.now + 1 : Nat))) := by
    have z := add_end (G := G) (G' := G.set (.wr n.addr) (.slice ao ((S.ms (.wr n.addr)).length + 1) cap)) (S' := S.add n) ⟨rfl, rfl, rfl, rfl⟩ P6 hG6 hF6 (eq_wr hk)
    exact z
  have d0 : w6.cell? ⟨G.p, 0, none⟩ = some (vI S.now) := P6.c0
  have df : w6.frozen? ⟨G.p, 0, none⟩ = false := P6.fz 0
  clear P6 hG6 hF6 P5 L5 hG0 hF0
  have hw : wrap64 ((S.now : Int) + 1) = ((S.now + 1 : Nat) : Int) := by unfold wrap64; omega
  go_wp2
  go_end0
  exact hend
end Go.Proofs.Ytbdmemjenpnjgaa
