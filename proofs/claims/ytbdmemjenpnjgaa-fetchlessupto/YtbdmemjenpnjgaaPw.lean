/- add: the phases of its regions; an NIc, an NIcAll. -/
import Derived.Test.YtbdmemjenpnjgaaPv
namespace Go.Proofs.Ytbdmemjenpnjgaa
open Go.RowKit
set_option linter.unusedVariables false
set_option linter.unusedSimpArgs false
set_option maxRecDepth 8000

open Go.Shelf Go.Maps
def AdC (G : Gh) (S : Pst) (M : Nat) (s : Sl) (x t : Nat) (n : Nt) (w : World) (N : Nat) : Nat → Option Value → World → Prop
  | 0, none, w' => PastAt G S M w' ∧ LocN t n w' ∧ Below w.heap.size w w' ∧ w'.heap.size = N
  | 1, none, w' => PastAt G S M w' ∧ LocN t n w' ∧ Below w.heap.size w w' ∧ w'.heap[N]? = some (.cells #[vI x] 3)
  | 2, some u, w' => ∃ w0, Mid G S M s u (S.ms s ++ [x]) w0 w' ∧ LocN t n w' ∧ LocN t n w0 ∧ Below w.heap.size w w0
  | 3, some u, w' => PastAt (G.set s u) (S.put s (S.ms s ++ [x])) (M + 1) w' ∧ LocN t n w' ∧ Goes (Foot G) w w' ∧ ∀ k, Foot (G.set s u) k → Foot G k ∨ w.heap.size ≤ k
  | _, _, _ => False
section
variable {G : Gh} {S : Pst} {M : Nat} {s : Sl} {x t : Nat} {n : Nt} {w w1 w2 : World} {N j : Nat} {ou : Option Value}
theorem adC_hd (h : AdC G S M s x t n w N j ou w1) (hj : j ≤ 2) : w1.heap[G.p]? = some (.cells (pcells G S) 69) := by
  match j, ou, h with
  | 0, none, h => exact h.1.hd
  | 1, none, h => exact h.1.hd
  | 2, some u, ⟨w0, h, _⟩ => exact h.hd
theorem adC_loc (h : AdC G S M s x t n w N j ou w1) (hj : j ≤ 2) : LocN t n w1 := by
  match j, ou, h with
  | 0, none, h => exact h.2.1
  | 1, none, h => exact h.2.1
  | 2, some u, ⟨w0, h, h2, _⟩ => exact h2
theorem adC_past (h : AdC G S M s x t n w N j ou w1) (hj : j ≤ 1) : PastAt G S M w1 := by
  match j, ou, h with
  | 0, none, h => exact h.1
  | 1, none, h => exact h.1
theorem adC_c (h : AdC G S M s x t n w N j ou w1) (hj : j ≤ 2) (k : Nat) : w1.cell? ⟨G.p, k, none⟩ = (pcells G S)[k]? := cell_of_row _ _ _ _ _ _ (adC_hd h hj)
theorem foot_loc {k : Nat} (P : PastAt G S M w1) (h : LocN k n w1) : ¬ Foot G k := by
  have h : w1.heap[k]? = some (.cells (ntA n) 34) := h
  rintro (rfl | rfl | rfl | rfl | ⟨s, hs⟩)
  · exact ne_of_type P.hd h (by decide) rfl
  · obtain ⟨_, _, e⟩ := P.mw.is; rw [e] at h; cases h
  · obtain ⟨_, _, e⟩ := P.ml.is; rw [e] at h; cases h
  · obtain ⟨_, _, e⟩ := P.mn.is; rw [e] at h; cases h
  · exact own_ne h (P.row s) (by decide) hs
theorem LocN.goes {F : Nat → Prop} {k : Nat} (h : LocN k n w1) (hg : Goes F w1 w2) (hF : ¬ F k) : LocN k n w2 := by unfold LocN; rw [hg.block k h.lt hF]; exact h
theorem adC_start (P : PastAt G S M w) (L : LocN t n w) : AdC G S M s x t n w w.heap.size 0 none { w with drawn := w.drawn + 1 } :=
  ⟨P.grow (Rel.below_draws (n := 1) (Below.refl _ _)), L.grow (Rel.below_draws (n := 1) (Below.refl _ _)), Rel.below_draws (n := 1) (Below.refl _ _), rfl⟩
theorem adC_new (h : AdC G S M s x t n w w.heap.size 0 none w1) : AdC G S M s x t n w w.heap.size 1 none (w1.alloc (.cells #[vI x] 3)) :=
  ⟨h.1.grow (below_alloc _ _), h.2.1.grow (below_alloc _ _), h.2.2.1.trans ((below_alloc _ _).mono h.2.2.1.size), by rw [← h.2.2.2]; exact World.alloc_heap_new _ _⟩
theorem adC_app (h : AdC G S M s x t n w N 1 none w1) {g cap : Nat} (q1 : w2.ownsRow 0 3 1 (.slice (some ⟨g, 0, none⟩) ((S.ms s).length + 1) cap) (S.ms s ++ [x]).length (numV (S.ms s ++ [x]))) (q2 : w1.grownBy w2 (G.val s).ownBlock) (q3 : (G.val s).ownBlock = some g ∨ g = w1.heap.size) : AdC G S M s x t n w N 2 (some (.slice (some ⟨g, 0, none⟩) ((S.ms s).length + 1) cap)) w2 := by
  have m : Mid G S M s (.slice (some ⟨g, 0, none⟩) ((S.ms s).length + 1) cap) (S.ms s ++ [x]) w1 w2 := ⟨h.1, q1, q2, ⟨g, rfl, q3⟩, by have := h.1.len s; rw [List.length_append, List.length_singleton]; omega⟩
  exact ⟨w1, m, h.2.1.goes m.goes (foot_loc h.1 h.2.1), h.2.1, h.2.2.1⟩
theorem adC_end {u : Value} {w0 w3 : World} (m : Mid G S M s u (S.ms s ++ [x]) w0 w1) (L : LocN t n w0) (hB : Below w.heap.size w w0) (P : PastAt (G.set s u) (S.put s (S.ms s ++ [x])) (M + 1) w3) (hg : Goes (Foot G) w0 w3) : AdC G S M s x t n w N 3 (some u) w3 :=
  ⟨P, L.goes hg (foot_loc m.past L), (goes_of_below hB).trans hg fun _ _ e => e, fun k hk => by
    rcases m.foot hk with e | e
    · exact .inl e
    · exact .inr (Nat.le_trans hB.size e)⟩
end

def AddR (G : Gh) (S : Pst) (M : Nat) (w : World) (e : Ending) (w' : World) : Prop := e = .returned (.tuple #[]) ∧ ∃ G', G'.p = G.p ∧ G'.bw = G.bw ∧ G'.bl = G.bl ∧ G'.bn = G.bn ∧ PastAt G' S M w' ∧ Goes (Foot G) w w' ∧ ∀ k, Foot G' k → Foot G k ∨ w.heap.size ≤ k
/-- The last region: the next moment. -/
theorem add_end {G G' : Gh} {S S' : Pst} {M : Nat} {w w1 : World} (h0 : G'.p = G.p ∧ G'.bw = G.bw ∧ G'.bl = G.bl ∧ G'.bn = G.bn) (P : PastAt G' S M w1) (hg : Goes (Foot G) w w1) (hf : ∀ k, Foot G' k → Foot G k ∨ w.heap.size ≤ k) (hS : S' = { S with now := S.now + 1 }) : AddR G S' M w (.returned (.tuple #[])) (w1.setCell ⟨G'.p, 0, none⟩ (vI (S.now + 1 : Nat))) := by
  subst hS
  obtain ⟨q1, q2⟩ := P.cellP 0 (vI (S.now + 1 : Nat)) { S with now := S.now + 1 } rfl rfl rfl
  refine ⟨rfl, G', h0.1, h0.2.1, h0.2.2.1, h0.2.2.2, q1, hg.trans q2 ?_, hf⟩
  intro k hk hk'
  rcases hf k hk' with e | e
  · exact e
  · omega
theorem eq_al {S : Pst} {n : Nt} (hk : n.kind = 3) : S.add n = { S.put .al (S.ms .al ++ [S.now]) with now := S.now + 1 } := by
  simp [Pst.add, hk, Pst.put, Pst.note]; rfl
theorem eq_ln {S : Pst} {n : Nt} (hk : n.kind = 2) : S.add n = { S.put (.ln (lineN n.addr)) (S.ms (.ln (lineN n.addr)) ++ [S.now]) with now := S.now + 1 } := by
  simp [Pst.add, hk, Pst.put, Pst.note]; rfl
theorem eq_isb {S : Pst} {n : Nt} (hk : n.kind = 4) : S.add n = { S with now := S.now + 1, isb := fun c => if (c : Int) = n.core then S.now else S.isb c } := by
  simp [Pst.add, hk]
theorem eq_wr {S : Pst} {n : Nt} (hk : n.kind = 1) : S.add n = { S.put (.wr n.addr) (S.ms (.wr n.addr) ++ [S.now]) with now := S.now + 1, new := fun a w => if a = n.addr ∧ w = n.word then (S.ms (.wr n.addr)).length + 1 else S.new a w } := by
  simp [Pst.add, hk, Pst.put, Pst.note]; rfl
theorem eq_no {S : Pst} {n : Nt} (h1 : n.kind ≠ 1) (h2 : n.kind ≠ 2) (h3 : n.kind ≠ 3) (h4 : n.kind ≠ 4) : S.add n = { S with now := S.now + 1 } := by
  simp [Pst.add, h1, h2, h3, h4]
set_option maxHeartbeats 2000000 in
theorem add_al {G : Gh} {S : Pst} {M : Nat} {n : Nt} {w0 : World} (P0 : PastAt G S M w0) (ok : NtOk n) (hM : M < 10000000000000) (hN : S.now < 10000000000000) (hk : n.kind = 3) : Calls Try.prog 29 #[ptr G.p 0, ntV n] w0 fun e w' => AddR G (S.add n) (M + 2) w0 e w' := by
  have P1 := P0.grow (below_alloc w0 (.cells (ntA n) 34))
  have L1 := LocN.new w0 n
  have B1 := below_alloc w0 (.cells (ntA n) 34)
  have hline : lineN n.addr < 18446744073709551616 := by have := ok.addr; unfold lineN; omega
  go_enter Try.func29, Try.ntmps29
  go_upto_region 1 with fail
  generalize w0.alloc (.cells (ntA n) 34) = w at *
  have c0 := L1.c0
  rw [hk] at c0
  go_upto_region 8 with fail
  have hst : (AdC G S M (.al) S.now w0.heap.size n w w.heap.size) 0 none _ := adC_start P1 L1
  refine Chn.wp_region_chainX (AdC G S M (.al) S.now w0.heap.size n w w.heap.size) [9, 10, 13] [3, 3, 3, 3, 1, 3, 3, 3, 0, 3, 3, 3, 3, 3] 10 (fun u => [ptr G.p 0, ptr G.p 0, ptr G.p 0, ptr G.p 3, G.val .al, ptr G.p 0, ptr G.p 0, ptr G.p 0, vI S.now, .slice (some ⟨w.heap.size, 0, none⟩) 1 1, u, ptr G.p 0, ptr G.p 3, undef]) (by kernel_rfl) (by kernel_rfl) (by kernel_rfl) (by kernel_rfl) (by kernel_rfl) (by kernel_rfl) (fun v q hq => by match q, hq with | 0, _ => rfl | 1, _ => rfl | 2, _ => rfl | 3, _ => rfl | 4, _ => rfl | 5, _ => rfl | 6, _ => rfl | 7, _ => rfl | 8, _ => rfl | 9, _ => rfl | 11, _ => rfl | 12, _ => rfl | 13, _ => rfl | n + 14, _ => rfl) (fun v => rfl) (by decide) hst ?_
  clear hst
  intro u
  refine ⟨fun j ou w1 hj hn hC => by exact Chn.upon_pure hC (fun F hF => by (go_simp <;> exact hF)), ?_⟩
  simp only [Act.put, List.setIfInBounds_toArray, List.set_cons_succ, List.set_cons_zero]
  refine ⟨fun j ou w1 hj hn hC => by exact Chn.upon_pure hC (fun F hF => by (go_simp <;> exact hF)), ?_⟩
  simp only [Act.put, List.setIfInBounds_toArray, List.set_cons_succ, List.set_cons_zero]
  refine ⟨fun j ou w1 hj hn hC => by exact Chn.upon_pure hC (fun F hF => by (go_simp <;> exact hF)), ?_⟩
  simp only [Act.put, List.setIfInBounds_toArray, List.set_cons_succ, List.set_cons_zero]
  refine ⟨fun j ou w1 hj hn hC => by exact Chn.upon_pure hC (fun F hF => by (go_simp <;> exact hF)), ?_⟩
  simp only [Act.put, List.setIfInBounds_toArray, List.set_cons_succ, List.set_cons_zero]
  refine ⟨fun j ou w1 hj hn hC => by
    have z := adC_c hC (Nat.le_trans hj (by decide)) 3
    exact Chn.upon_pure hC (fun F hF => by (go_simp <;> exact hF)), ?_⟩
  simp only [Act.put, List.setIfInBounds_toArray, List.set_cons_succ, List.set_cons_zero]
  refine ⟨fun j ou w1 hj hn hC => by exact Chn.upon_pure hC (fun F hF => by (go_simp <;> exact hF)), ?_⟩
  simp only [Act.put, List.setIfInBounds_toArray, List.set_cons_succ, List.set_cons_zero]
  refine ⟨fun j ou w1 hj hn hC => by exact Chn.upon_pure hC (fun F hF => by (go_simp <;> exact hF)), ?_⟩
  simp only [Act.put, List.setIfInBounds_toArray, List.set_cons_succ, List.set_cons_zero]
  refine ⟨fun j ou w1 hj hn hC => by exact Chn.upon_pure hC (fun F hF => by (go_simp <;> exact hF)), ?_⟩
  simp only [Act.put, List.setIfInBounds_toArray, List.set_cons_succ, List.set_cons_zero]
  refine ⟨fun j ou w1 hj hn hC => by
    have z := adC_c hC (Nat.le_trans hj (by decide)) 0
    exact Chn.upon_pure hC (fun F hF => by (go_simp <;> exact hF)), ?_⟩
  simp only [Act.put, List.setIfInBounds_toArray, List.set_cons_succ, List.set_cons_zero]
  refine ⟨fun ou w1 hn hC => by
    match ou, hC with
    | none, hC => exact chn_build 48 Try.underlying48 hC.2.2.2 (.tmp 77) rfl S.now rfl (adC_new hC), ?_⟩
  simp only [Act.put, List.setIfInBounds_toArray, List.set_cons_succ, List.set_cons_zero]
  refine ⟨fun w1 hC => by
    exact chn_app 48 Try.underlying48 _ _ rfl 0 (G.val (.al)) (S.ms (.al)) rfl (hC.1.row _) (Nat.zero_le _) w.heap.size 1 S.now rfl hC.2.2.2 (by have := hC.1.len (.al); omega) (fun g cap w2 q1 q2 q3 => adC_app hC q1 q2 q3), ?_⟩
  simp only [Act.put, List.setIfInBounds_toArray, List.set_cons_succ, List.set_cons_zero]
  refine ⟨fun j ou w1 hj hn hC => by exact Chn.upon_pure hC (fun F hF => by (go_simp <;> exact hF)), ?_⟩
  simp only [Act.put, List.setIfInBounds_toArray, List.set_cons_succ, List.set_cons_zero]
  refine ⟨fun j ou w1 hj hn hC => by exact Chn.upon_pure hC (fun F hF => by (go_simp <;> exact hF)), ?_⟩
  simp only [Act.put, List.setIfInBounds_toArray, List.set_cons_succ, List.set_cons_zero]
  refine ⟨fun ou w1 hn hC => by
    obtain rfl := hn (by kernel_rfl)
    obtain ⟨w2, m, _, L, hB⟩ := hC
    obtain ⟨r2, r3⟩ := m.al
    obtain ⟨g, cap, e1, _⟩ := own_len m.own
    exact chn_store 48 _ _ rfl G.p 3 rfl _ rfl (run_cell w1 48 G.p 3 _ _ inf48 (by rw [e1]; rfl) (by rw [e1]; rfl) (by rw [cell_of_row _ _ _ _ _ _ m.hd]; rfl) (frozen_of_row _ _ _ _ _ m.hd)) (adC_end m L hB r2 r3), ?_⟩
  simp only [Act.put, List.setIfInBounds_toArray, List.set_cons_succ, List.set_cons_zero]
  intro w5 hC

  obtain ⟨P5, L5, hG5, hF5⟩ := hC
  have d0 := P5.c0
  have df := P5.fz 0
  have hG0 : Goes (Foot G) w0 w5 := (goes_of_below B1).trans hG5 fun _ _ e => e
  have hF0 : ∀ k, Foot (G.set (.al) u) k → Foot G k ∨ w0.heap.size ≤ k := fun k hk => (hF5 k hk).imp id fun e => Nat.le_trans B1.size e
  have hend : AddR G (S.add n) (M + 2) w0 (.returned (.tuple #[])) (w5.setCell ⟨G.p, 0, none⟩ (vI (S.now + 1 : Nat))) := by
    have z := add_end (G := G) (G' := G.set (.al) u) (S' := S.add n) ⟨rfl, rfl, rfl, rfl⟩ (P5.mono (by omega : M + 1 ≤ M + 2)) hG0 hF0 (eq_al hk)
    exact z
  have d0 : w5.cell? ⟨G.p, 0, none⟩ = some (vI S.now) := d0
  have df : w5.frozen? ⟨G.p, 0, none⟩ = false := df
  clear P5 L5 hG5 hF5 hG0 hF0 P1 L1 B1 P0 c0
  have hw : wrap64 ((S.now : Int) + 1) = ((S.now + 1 : Nat) : Int) := by unfold wrap64; omega
  go_wp2
  go_end0
  exact hend
set_option maxHeartbeats 2000000 in
theorem add_ln {G : Gh} {S : Pst} {M : Nat} {n : Nt} {w0 : World} (P0 : PastAt G S M w0) (ok : NtOk n) (hM : M < 10000000000000) (hN : S.now < 10000000000000) (hk : n.kind = 2) : Calls Try.prog 29 #[ptr G.p 0, ntV n] w0 fun e w' => AddR G (S.add n) (M + 2) w0 e w' := by
  have P1 := P0.grow (below_alloc w0 (.cells (ntA n) 34))
  have L1 := LocN.new w0 n
  have B1 := below_alloc w0 (.cells (ntA n) 34)
  have hline : lineN n.addr < 18446744073709551616 := by have := ok.addr; unfold lineN; omega
  go_enter Try.func29, Try.ntmps29
  go_upto_region 1 with fail
  generalize w0.alloc (.cells (ntA n) 34) = w at *
  have c0 := L1.c0
  rw [hk] at c0
  go_upto_region 6 with fail
  have hst : (AdC G S M (.ln (lineN n.addr)) S.now w0.heap.size n w w.heap.size) 0 none _ := adC_start P1 L1
  refine Chn.wp_region_chainX (AdC G S M (.ln (lineN n.addr)) S.now w0.heap.size n w w.heap.size) [19, 20, 21] [3, 3, 3, 2, 3, 2, 3, 3, 3, 3, 2, 3, 2, 3, 1, 3, 3, 3, 0, 3, 3, 3] 20 (fun u => [ptr G.p 0, ptr G.p 0, ptr G.p 2, .map (some G.bl), ptr w0.heap.size 2, vU n.addr, vU (lineN n.addr), ptr G.p 0, ptr G.p 0, ptr G.p 2, .map (some G.bl), ptr w0.heap.size 2, vU n.addr, vU (lineN n.addr), G.val (.ln (lineN n.addr)), ptr G.p 0, ptr G.p 0, ptr G.p 0, vI S.now, .slice (some ⟨w.heap.size, 0, none⟩) 1 1, u, undef]) (by kernel_rfl) (by kernel_rfl) (by kernel_rfl) (by kernel_rfl) (by kernel_rfl) (by kernel_rfl) (fun v q hq => by match q, hq with | 0, _ => rfl | 1, _ => rfl | 2, _ => rfl | 3, _ => rfl | 4, _ => rfl | 5, _ => rfl | 6, _ => rfl | 7, _ => rfl | 8, _ => rfl | 9, _ => rfl | 10, _ => rfl | 11, _ => rfl | 12, _ => rfl | 13, _ => rfl | 14, _ => rfl | 15, _ => rfl | 16, _ => rfl | 17, _ => rfl | 18, _ => rfl | 19, _ => rfl | 21, _ => rfl | n + 22, _ => rfl) (fun v => rfl) (by decide) hst ?_
  clear hst
  intro u
  refine ⟨fun j ou w1 hj hn hC => by exact Chn.upon_pure hC (fun F hF => by (go_simp <;> exact hF)), ?_⟩
  simp only [Act.put, List.setIfInBounds_toArray, List.set_cons_succ, List.set_cons_zero]
  refine ⟨fun j ou w1 hj hn hC => by exact Chn.upon_pure hC (fun F hF => by (go_simp <;> exact hF)), ?_⟩
  simp only [Act.put, List.setIfInBounds_toArray, List.set_cons_succ, List.set_cons_zero]
  refine ⟨fun j ou w1 hj hn hC => by exact Chn.upon_pure hC (fun F hF => by (go_simp <;> exact hF)), ?_⟩
  simp only [Act.put, List.setIfInBounds_toArray, List.set_cons_succ, List.set_cons_zero]
  refine ⟨fun j ou w1 hj hn hC => by
    have z := adC_c hC (Nat.le_trans hj (by decide)) 2
    exact Chn.upon_pure hC (fun F hF => by (go_simp <;> exact hF)), ?_⟩
  simp only [Act.put, List.setIfInBounds_toArray, List.set_cons_succ, List.set_cons_zero]
  refine ⟨fun j ou w1 hj hn hC => by exact Chn.upon_pure hC (fun F hF => by (go_simp <;> exact hF)), ?_⟩
  simp only [Act.put, List.setIfInBounds_toArray, List.set_cons_succ, List.set_cons_zero]
  refine ⟨fun j ou w1 hj hn hC => by
    have z := (adC_loc hC (Nat.le_trans hj (by decide))).c2
    exact Chn.upon_pure hC (fun F hF => by (go_simp <;> exact hF)), ?_⟩
  simp only [Act.put, List.setIfInBounds_toArray, List.set_cons_succ, List.set_cons_zero]
  refine ⟨fun j ou w1 hj hn hC => by
    exact Chn.upon_call (C := (AdC G S M (.ln (lineN n.addr)) S.now w0.heap.size n w w.heap.size) j ou) (line_c n.addr ok.addr w1) (fun e2 w2 hh => ⟨hh.1, by rw [hh.2]; exact hC⟩) (fun F hF => by (go_simp <;> exact hF)), ?_⟩
  simp only [Act.put, List.setIfInBounds_toArray, List.set_cons_succ, List.set_cons_zero]
  refine ⟨fun j ou w1 hj hn hC => by exact Chn.upon_pure hC (fun F hF => by (go_simp <;> exact hF)), ?_⟩
  simp only [Act.put, List.setIfInBounds_toArray, List.set_cons_succ, List.set_cons_zero]
  refine ⟨fun j ou w1 hj hn hC => by exact Chn.upon_pure hC (fun F hF => by (go_simp <;> exact hF)), ?_⟩
  simp only [Act.put, List.setIfInBounds_toArray, List.set_cons_succ, List.set_cons_zero]
  refine ⟨fun j ou w1 hj hn hC => by exact Chn.upon_pure hC (fun F hF => by (go_simp <;> exact hF)), ?_⟩
  simp only [Act.put, List.setIfInBounds_toArray, List.set_cons_succ, List.set_cons_zero]
  refine ⟨fun j ou w1 hj hn hC => by
    have z := adC_c hC (Nat.le_trans hj (by decide)) 2
    exact Chn.upon_pure hC (fun F hF => by (go_simp <;> exact hF)), ?_⟩
  simp only [Act.put, List.setIfInBounds_toArray, List.set_cons_succ, List.set_cons_zero]
  refine ⟨fun j ou w1 hj hn hC => by exact Chn.upon_pure hC (fun F hF => by (go_simp <;> exact hF)), ?_⟩
  simp only [Act.put, List.setIfInBounds_toArray, List.set_cons_succ, List.set_cons_zero]
  refine ⟨fun j ou w1 hj hn hC => by
    have z := (adC_loc hC (Nat.le_trans hj (by decide))).c2
    exact Chn.upon_pure hC (fun F hF => by (go_simp <;> exact hF)), ?_⟩
  simp only [Act.put, List.setIfInBounds_toArray, List.set_cons_succ, List.set_cons_zero]
  refine ⟨fun j ou w1 hj hn hC => by
    exact Chn.upon_call (C := (AdC G S M (.ln (lineN n.addr)) S.now w0.heap.size n w w.heap.size) j ou) (line_c n.addr ok.addr w1) (fun e2 w2 hh => ⟨hh.1, by rw [hh.2]; exact hC⟩) (fun F hF => by (go_simp <;> exact hF)), ?_⟩
  simp only [Act.put, List.setIfInBounds_toArray, List.set_cons_succ, List.set_cons_zero]
  refine ⟨fun j ou w1 hj hn hC => by
    have z := (adC_past hC (Nat.le_trans hj (by decide))).ml.look hline
    exact Chn.upon_pure hC (fun F hF => by (go_simp <;> exact hF)), ?_⟩
  simp only [Act.put, List.setIfInBounds_toArray, List.set_cons_succ, List.set_cons_zero]
  refine ⟨fun j ou w1 hj hn hC => by exact Chn.upon_pure hC (fun F hF => by (go_simp <;> exact hF)), ?_⟩
  simp only [Act.put, List.setIfInBounds_toArray, List.set_cons_succ, List.set_cons_zero]
  refine ⟨fun j ou w1 hj hn hC => by exact Chn.upon_pure hC (fun F hF => by (go_simp <;> exact hF)), ?_⟩
  simp only [Act.put, List.setIfInBounds_toArray, List.set_cons_succ, List.set_cons_zero]
  refine ⟨fun j ou w1 hj hn hC => by exact Chn.upon_pure hC (fun F hF => by (go_simp <;> exact hF)), ?_⟩
  simp only [Act.put, List.setIfInBounds_toArray, List.set_cons_succ, List.set_cons_zero]
  refine ⟨fun j ou w1 hj hn hC => by
    have z := adC_c hC (Nat.le_trans hj (by decide)) 0
    exact Chn.upon_pure hC (fun F hF => by (go_simp <;> exact hF)), ?_⟩
  simp only [Act.put, List.setIfInBounds_toArray, List.set_cons_succ, List.set_cons_zero]
  refine ⟨fun ou w1 hn hC => by
    match ou, hC with
    | none, hC => exact chn_build 48 Try.underlying48 hC.2.2.2 (.tmp 64) rfl S.now rfl (adC_new hC), ?_⟩
  simp only [Act.put, List.setIfInBounds_toArray, List.set_cons_succ, List.set_cons_zero]
  refine ⟨fun w1 hC => by
    exact chn_app 48 Try.underlying48 _ _ rfl 0 (G.val (.ln (lineN n.addr))) (S.ms (.ln (lineN n.addr))) rfl (hC.1.row _) (Nat.zero_le _) w.heap.size 1 S.now rfl hC.2.2.2 (by have := hC.1.len (.ln (lineN n.addr)); omega) (fun g cap w2 q1 q2 q3 => adC_app hC q1 q2 q3), ?_⟩
  simp only [Act.put, List.setIfInBounds_toArray, List.set_cons_succ, List.set_cons_zero]
  refine ⟨fun ou w1 hn hC => by
    obtain rfl := hn (by kernel_rfl)
    obtain ⟨w2, m, _, L, hB⟩ := hC
    obtain ⟨w3, r1, r2, r3⟩ := m.ln hline (by omega)
    exact chn_put 65 _ _ _ rfl _ _ _ rfl rfl rfl r1 (adC_end m L hB r2 r3), ?_⟩
  simp only [Act.put, List.setIfInBounds_toArray, List.set_cons_succ, List.set_cons_zero]
  intro w5 hC

  obtain ⟨P5, L5, hG5, hF5⟩ := hC
  have d0 := P5.c0
  have df := P5.fz 0
  have hG0 : Goes (Foot G) w0 w5 := (goes_of_below B1).trans hG5 fun _ _ e => e
  have hF0 : ∀ k, Foot (G.set (.ln (lineN n.addr)) u) k → Foot G k ∨ w0.heap.size ≤ k := fun k hk => (hF5 k hk).imp id fun e => Nat.le_trans B1.size e
  have hend : AddR G (S.add n) (M + 2) w0 (.returned (.tuple #[])) (w5.setCell ⟨G.p, 0, none⟩ (vI (S.now + 1 : Nat))) := by
    have z := add_end (G := G) (G' := G.set (.ln (lineN n.addr)) u) (S' := S.add n) ⟨rfl, rfl, rfl, rfl⟩ (P5.mono (by omega : M + 1 ≤ M + 2)) hG0 hF0 (eq_ln hk)
    exact z
  have d0 : w5.cell? ⟨G.p, 0, none⟩ = some (vI S.now) := d0
  have df : w5.frozen? ⟨G.p, 0, none⟩ = false := df
  clear P5 L5 hG5 hF5 hG0 hF0 P1 L1 B1 P0 c0
  have hw : wrap64 ((S.now : Int) + 1) = ((S.now + 1 : Nat) : Int) := by unfold wrap64; omega
  go_wp2
  go_end0
  exact hend
end Go.Proofs.Ytbdmemjenpnjgaa
