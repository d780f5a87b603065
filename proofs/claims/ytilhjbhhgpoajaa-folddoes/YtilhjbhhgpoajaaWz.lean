/- FoldDoes: the walk. -/
import Derived.Test.YtilhjbhhgpoajaaXs
import Derived.Test.YtilhjbhhgpoajaaXq
namespace Go.Proofs.Ytilhjbhhgpoajaa
open Go.RowKit
set_option linter.unusedVariables false
set_option linter.unusedSimpArgs false
set_option maxRecDepth 8000

section
variable {w : World} {pc words el : Int} {v v1 v2 vz : Value} {l : List Opr} {c : Cor} {z : List Gt}
theorem right_el (h : rightB pc words el l = true) : el = 0 ∨ el = 1 := by
  unfold rightB headB at h
  simp only [Bool.and_eq_true, Bool.or_eq_true, beq_iff_eq] at h
  exact h.1.1.1.1.2
theorem newE_right (h : rightB pc words el l = true) (hu : ∀ k, U64 (opAt l k).imm) (c : Cor) : (newE pc words el l c = 0 ∧ newE pc words el (layAll l) c = 0) ∨ (newE pc words el l c = 1 ∧ newE pc words el (layAll l) c = 1) := by
  obtain ⟨rm, _, _⟩ := right_layAll h hu
  unfold newE
  rw [h, rm, if_pos rfl]
  by_cases hc : rightC c = true ∧ c.el = el
  · left; rw [if_pos hc]; exact ⟨rfl, rfl⟩
  · right; rw [if_neg hc]; exact ⟨rfl, rfl⟩
theorem does_c (G : Gots w vz z) (hpc : 0 ≤ pc) (hR : rightB pc words el l = true) (hu : ∀ k, U64 (opAt l k).imm) (O1 : Ops w v1 l) (O2 : Ops w v2 (layAll l)) (cap1 : ∀ ao n cap, v1 = .slice ao n cap → n ≤ cap) (cap2 : ∀ ao n cap, v2 = .slice ao n cap → n ≤ cap) (hc : CorOk c) : Calls Try.prog 13 #[blV pc words el v1, blV pc words el v2, c.val, vz] w fun e w' => e = .returned (.bool true) ∧ Below w.heap.size w w' := by
  obtain ⟨rm, _, hum⟩ := right_layAll hR hu
  rcases newE_right hR hu c with ⟨h1, h2⟩ | ⟨h1, h2⟩
  · obtain ⟨a1, c1, rfl⟩ := O1.len
    obtain ⟨zo, zc, rfl⟩ := G.len
    exact does_yes G hpc (right_el hR) hR hu O1 O2 cap1 cap2 (O1.lt (right_first hR).1) (O2.lt (right_first rm).1) hc h1 h2
  · exact does_no hpc O1 O2 hu hum cap1 cap2 hc h1 h2
/-- What FoldDoes holds. -/
structure FdW (w : World) (pc words el : Int) (v : Value) (l : List Opr) (c : Cor) (b1 b2 g t9 : Nat) (x : World) : Prop where
  n : NwC w pc words el v l c b1 b2 x
  rg : x.heap[g]? = some (.cells (opF (l ++ [m7])).toArray 45)
  r9 : x.heap[t9]? = some (.cells (blA pc words el (.slice (some ⟨g, 0, none⟩) l.length (l.length + 1))) 25)
theorem FdW.grow {b1 b2 g t9 : Nat} {x y : World} (h : FdW w pc words el v l c b1 b2 g t9 x) (hb : Below x.heap.size x y) : FdW w pc words el v l c b1 b2 g t9 y :=
  ⟨h.n.grow hb, keepRow h.rg hb, keepRow h.r9 hb⟩
theorem sln_cap (g n : Nat) : ∀ ao m cap, Value.slice (some ⟨g, 0, none⟩) n (n + 1) = .slice ao m cap → m ≤ cap := fun _ _ _ e => by cases e; exact Nat.le_succ _
theorem bl_c0 {x : World} {t : Nat} (h : x.heap[t]? = some (.cells (blA pc words el v) 25)) : x.cell? ⟨t, 0, none⟩ = some (vU pc) := by rw [cell_of_row _ _ _ _ _ _ h]; rfl
theorem bl_c1 {x : World} {t : Nat} (h : x.heap[t]? = some (.cells (blA pc words el v) 25)) : x.cell? ⟨t, 1, none⟩ = some (vI words) := by rw [cell_of_row _ _ _ _ _ _ h]; rfl
theorem bl_c2 {x : World} {t : Nat} (h : x.heap[t]? = some (.cells (blA pc words el v) 25)) : x.cell? ⟨t, 2, none⟩ = some (vI el) := by rw [cell_of_row _ _ _ _ _ _ h]; rfl
theorem bl_c3 {x : World} {t : Nat} (h : x.heap[t]? = some (.cells (blA pc words el v) 25)) : x.cell? ⟨t, 3, none⟩ = some v := by rw [cell_of_row _ _ _ _ _ _ h]; rfl
set_option maxHeartbeats 16000000 in
theorem does_walk (G : Gots w vz z) (hpc : 0 ≤ pc) (O : OpsIn w v l) (hl : l.length * 48 ≤ 140737488351232) (hc : CorOk c) : Calls Try.prog 3 #[blV pc words el v, c.val, vz] w fun e w' => e = .returned (.bool true) ∧ Below w.heap.size w w' := by
  have himm : ∀ k, 0 ≤ (opAt l k).imm := fun k => (O.imm k).1
  have hu := O.imm
  have hcapv := O.cap
  have hmx : l.length ≤ maxLen := O.ops.max
  have N0 : NwC w pc words el v l c w.heap.size (w.heap.size + 1) ((w.alloc (.cells (blA pc words el v) 25)).alloc (.cells c.cells 29)) := by
    have hb := below_alloc w (.cells (blA pc words el v) 25)
    have hb2 := below_alloc (w.alloc (.cells (blA pc words el v) 25)) (.cells c.cells 29)
    refine ⟨?_, ?_, (O.ops.grow hb).grow hb2, below_then hb (Nat.le_refl _) hb2⟩
    · rw [hb2.block _ (by simp)]; exact heap_alloc_new _ _
    · have := heap_alloc_new (w.alloc (.cells (blA pc words el v) 25)) (.cells c.cells 29)
      rw [World.size_alloc] at this; exact this
  clear O
  go_enter Try.func3, Try.ntmps3
  go_upto_region 1 with fail
  generalize (w.alloc (.cells (blA pc words el v) 25)).alloc (.cells c.cells 29) = w2 at *
  generalize w.heap.size + 1 = b2 at *
  generalize hbb : w.heap.size = b1 at N0
  clear hbb
  go_upto_region 2 with (first | (go_at_call 6; (with_reducible refine (examples_c _).mono ?_); rintro e w3 ⟨rfl, B⟩; dsimp only; have N := N0.grow B; clear N0 B))
  have kr := dRight_c (words := words) (el := el) hpc N.ops himm hcapv
  go_upto_region 3 with (first | ((with_reducible refine wpList_load_if rfl 25 _ rfl _ rfl 25 _ (0, 0) _ N.r1 Try.underlying25 rfl (bl_inf _ _ _ _) ?_); simp only [Act.put, List.setIfInBounds_toArray, List.set_cons_succ, List.set_cons_zero]) | (go_at_call 7; (with_reducible refine kr.mono ?_); clear kr; rintro e w4 ⟨rfl, B⟩; dsimp only; replace N := N.grow B; clear B))
  have kc := copied_c (pc := pc) (words := words) (el := el) N.ops hl
  go_upto_region 4 with (first | ((with_reducible refine wpList_load_if rfl 25 _ rfl _ rfl 25 _ (0, 0) _ N.r1 Try.underlying25 rfl (bl_inf _ _ _ _) ?_); simp only [Act.put, List.setIfInBounds_toArray, List.set_cons_succ, List.set_cons_zero]) | (go_at_call 8; (with_reducible refine kc.mono ?_); clear kc; rintro e w5 ⟨g, rfl, rg, hlog, B⟩; dsimp only; replace N := N.grow B; clear B; have Hn := has_none w5) | ((with_reducible refine wpList_store_new Hn rfl 25 _ _ rfl (blA pc words el (.slice (some ⟨g, 0, none⟩) l.length (l.length + 1))) rfl rfl (bl_inf _ _ _ _) (by kernel_rfl) (blk_one _ _ _ _ rfl) ?_); clear Hn; intro w6 Hn; simp only [Act.put, List.setIfInBounds_toArray, List.set_cons_succ, List.set_cons_zero]))
  have X : FdW w pc words el v l c b1 b2 g w5.heap.size w6 := ⟨N.grow Hn.below, keepRow rg Hn.below, Hn.get List.mem_cons_self⟩
  generalize w5.heap.size = t9 at X ⊢
  clear Hn N rg hlog
  have kb := block_c (words := words) (el := el) hpc (m7_ops X.rg hmx).1 hu (sln_cap g l.length) (fun ra n cap e => by cases e; exact lt_of_some X.rg)
  have k9 := X.r9
  cases hR : rightB pc words el l with
  | false =>
    replace hR := show Hid _ from hR
    go_upto_region 5 with (first | ((with_reducible refine wpList_load_if rfl 25 _ rfl _ rfl 25 _ (0, 0) _ k9 Try.underlying25 rfl (bl_inf _ _ _ _) ?_); simp only [Act.put, List.setIfInBounds_toArray, List.set_cons_succ, List.set_cons_zero]) | (go_at_call 9; (with_reducible refine kb.mono ?_); clear kb; rintro e w7 ⟨B, ⟨hr, rfl⟩ | ⟨hr, _⟩⟩; rotate_left; (exfalso; rw [hR.out] at hr; cases hr); dsimp only; clear hr; have Hn := has_none w7) | ((with_reducible refine wpList_store_new Hn rfl 25 _ _ rfl (blA 0 0 0 (.slice none 0 0)) rfl rfl (bl_inf _ _ _ _) (by kernel_rfl) (blk_one _ _ _ _ rfl) ?_); clear Hn; intro w8 Hn; simp only [Act.put, List.setIfInBounds_toArray, List.set_cons_succ, List.set_cons_zero]))
    have r10 : w8.heap[w7.heap.size]? = some (.cells (blA 0 0 0 (.slice none 0 0)) 25) := Hn.get List.mem_cons_self
    replace X := (X.grow B).grow Hn.below
    clear B Hn k9
    generalize w7.heap.size = t10 at *
    have ks := step_c (words := words) (el := el) hpc (m7_ops X.rg hmx).1 hu (sln_cap g l.length) (fun ra n cap e => by cases e; exact lt_of_some X.rg)
    have k9 := X.r9
    go_upto_region 6 with (first | ((with_reducible refine wpList_load_if rfl 25 _ rfl _ rfl 25 _ (0, 0) _ k9 Try.underlying25 rfl (bl_inf _ _ _ _) ?_); simp only [Act.put, List.setIfInBounds_toArray, List.set_cons_succ, List.set_cons_zero]) | (go_at_call 10; (with_reducible refine ks.mono ?_); clear ks; rintro e w9 ⟨B, ⟨hr, rfl⟩ | ⟨hr, _⟩⟩; rotate_left; (exfalso; rw [hR.out] at hr; cases hr); dsimp only; clear hr; have Hn := has_none w9) | ((with_reducible refine wpList_store_new Hn rfl 25 _ _ rfl (blA 0 0 0 (.slice none 0 0)) rfl rfl (bl_inf _ _ _ _) (by kernel_rfl) (blk_one _ _ _ _ rfl) ?_); clear Hn; intro w10 Hn; simp only [Act.put, List.setIfInBounds_toArray, List.set_cons_succ, List.set_cons_zero]))
    have r12 : w10.heap[w9.heap.size]? = some (.cells (blA 0 0 0 (.slice none 0 0)) 25) := Hn.get List.mem_cons_self
    replace X := (X.grow B).grow Hn.below
    replace r10 := keepRow (keepRow r10 B) Hn.below
    clear B Hn k9
    generalize w9.heap.size = t12 at *
    have kt := still_c (pc := pc) (words := words) (el := el) hl X.rg X.n.ops
    have k9 := X.r9
    have k3 := X.n.r1
    go_upto_region 7 with (first | ((with_reducible refine wpList_load_if rfl 25 _ rfl _ rfl 25 _ (0, 0) _ k9 Try.underlying25 rfl (bl_inf _ _ _ _) ?_); simp only [Act.put, List.setIfInBounds_toArray, List.set_cons_succ, List.set_cons_zero]) | ((with_reducible refine wpList_load_if rfl 25 _ rfl _ rfl 25 _ (0, 0) _ k3 Try.underlying25 rfl (bl_inf _ _ _ _) ?_); simp only [Act.put, List.setIfInBounds_toArray, List.set_cons_succ, List.set_cons_zero]) | (go_at_call 11; (with_reducible refine kt.mono ?_); clear kt; rintro e w11 ⟨rfl, B⟩; dsimp only))
    have y1 := bl_c3 (keepRow r10 B)
    have y2 := bl_c3 (keepRow r12 B)
    have hB := (X.n.grow B).below
    clear X r10 r12 B k9 k3
    go_wp2
    go_ret
    exact ⟨rfl, hB⟩
  | true =>
    obtain ⟨rm, hml, hum⟩ := right_layAll hR hu
    have hmm : (layAll l).length ≤ maxLen := Nat.le_trans hml hmx
    have h0m := (right_first rm).1
    replace hR := show Hid _ from hR
    go_upto_region 5 with (first | ((with_reducible refine wpList_load_if rfl 25 _ rfl _ rfl 25 _ (0, 0) _ k9 Try.underlying25 rfl (bl_inf _ _ _ _) ?_); simp only [Act.put, List.setIfInBounds_toArray, List.set_cons_succ, List.set_cons_zero]) | (go_at_call 9; (with_reducible refine kb.mono ?_); clear kb; rintro e w7 ⟨B, ⟨hr, _⟩ | ⟨hr, u, rfl, hown⟩⟩; (exfalso; rw [hR.out] at hr; cases hr); dsimp only; clear hr; have Hn := has_none w7; have hone : u.oneCell' = true := (opsC_of hown hmm).one) | ((with_reducible refine wpList_store_new Hn rfl 25 _ _ rfl (blA pc words el u) rfl rfl (bl_inf _ _ _ _) (by kernel_rfl) (blk_one _ _ _ _ hone) ?_); clear Hn; intro w8 Hn; simp only [Act.put, List.setIfInBounds_toArray, List.set_cons_succ, List.set_cons_zero]))
    have r10 : w8.heap[w7.heap.size]? = some (.cells (blA pc words el u) 25) := Hn.get List.mem_cons_self
    have C1 := (opsC_of hown hmm).grow Hn.below
    replace X := (X.grow B).grow Hn.below
    clear B Hn k9 hown hone
    generalize w7.heap.size = t10 at *
    have ks := step_c (words := words) (el := el) hpc (m7_ops X.rg hmx).1 hu (sln_cap g l.length) (fun ra n cap e => by cases e; exact lt_of_some X.rg)
    have k9 := X.r9
    go_upto_region 6 with (first | ((with_reducible refine wpList_load_if rfl 25 _ rfl _ rfl 25 _ (0, 0) _ k9 Try.underlying25 rfl (bl_inf _ _ _ _) ?_); simp only [Act.put, List.setIfInBounds_toArray, List.set_cons_succ, List.set_cons_zero]) | (go_at_call 10; (with_reducible refine ks.mono ?_); clear ks; rintro e w9 ⟨B, ⟨hr, _⟩ | ⟨hr, u2, rfl, hown⟩⟩; (exfalso; rw [hR.out] at hr; cases hr); dsimp only; clear hr; have Hn := has_none w9; have hone : u2.oneCell' = true := (opsC_of hown hmm).one) | ((with_reducible refine wpList_store_new Hn rfl 25 _ _ rfl (blA pc words el u2) rfl rfl (bl_inf _ _ _ _) (by kernel_rfl) (blk_one _ _ _ _ hone) ?_); clear Hn; intro w10 Hn; simp only [Act.put, List.setIfInBounds_toArray, List.set_cons_succ, List.set_cons_zero]))
    have r12 : w10.heap[w9.heap.size]? = some (.cells (blA pc words el u2) 25) := Hn.get List.mem_cons_self
    have C2 := (opsC_of hown hmm).grow Hn.below
    replace X := (X.grow B).grow Hn.below
    replace r10 := keepRow (keepRow r10 B) Hn.below
    replace C1 := (C1.grow B).grow Hn.below
    clear B Hn k9 hown hone
    generalize w9.heap.size = t12 at *
    have kt := still_c (pc := pc) (words := words) (el := el) hl X.rg X.n.ops
    have k9 := X.r9
    have k3 := X.n.r1
    go_upto_region 7 with (first | ((with_reducible refine wpList_load_if rfl 25 _ rfl _ rfl 25 _ (0, 0) _ k9 Try.underlying25 rfl (bl_inf _ _ _ _) ?_); simp only [Act.put, List.setIfInBounds_toArray, List.set_cons_succ, List.set_cons_zero]) | ((with_reducible refine wpList_load_if rfl 25 _ rfl _ rfl 25 _ (0, 0) _ k3 Try.underlying25 rfl (bl_inf _ _ _ _) ?_); simp only [Act.put, List.setIfInBounds_toArray, List.set_cons_succ, List.set_cons_zero]) | (go_at_call 11; (with_reducible refine kt.mono ?_); clear kt; rintro e w11 ⟨rfl, B⟩; dsimp only))
    replace X := X.grow B
    replace r10 := keepRow r10 B
    replace r12 := keepRow r12 B
    replace C1 := C1.grow B
    replace C2 := C2.grow B
    clear B k9 k3
    have himm2 : ∀ k, 0 ≤ (opAt (layAll l) k).imm := fun k => (hum k).1
    have kr1 := dRight_c (words := words) (el := el) hpc C1.ops himm2 C1.cap
    rw [rm] at kr1
    go_upto_region 12 with (first | ((with_reducible refine wpList_load_if rfl 25 _ rfl _ rfl 25 _ (0, 0) _ r10 Try.underlying25 rfl (bl_inf _ _ _ _) ?_); simp only [Act.put, List.setIfInBounds_toArray, List.set_cons_succ, List.set_cons_zero]) | (go_at_call 7; (with_reducible refine kr1.mono ?_); clear kr1; rintro e w12 ⟨rfl, B⟩; dsimp only))
    replace X := X.grow B
    replace r10 := keepRow r10 B
    replace r12 := keepRow r12 B
    replace C1 := C1.grow B
    replace C2 := C2.grow B
    clear B
    have kr2 := dRight_c (words := words) (el := el) hpc C2.ops himm2 C2.cap
    rw [rm] at kr2
    go_upto_region 13 with (first | ((with_reducible refine wpList_load_if rfl 25 _ rfl _ rfl 25 _ (0, 0) _ r12 Try.underlying25 rfl (bl_inf _ _ _ _) ?_); simp only [Act.put, List.setIfInBounds_toArray, List.set_cons_succ, List.set_cons_zero]) | (go_at_call 7; (with_reducible refine kr2.mono ?_); clear kr2; rintro e w13 ⟨rfl, B⟩; dsimp only))
    replace X := X.grow B
    replace r10 := keepRow r10 B
    replace r12 := keepRow r12 B
    replace C1 := C1.grow B
    replace C2 := C2.grow B
    clear B
    have k3 := X.n.r1
    have y0 := bl_c0 k3
    have y1 := bl_c1 k3
    have y2 := bl_c2 k3
    have y3 := bl_c0 r10
    have y4 := bl_c1 r10
    have y5 := bl_c2 r10
    have y6 := bl_c0 r12
    have y7 := bl_c1 r12
    have y8 := bl_c2 r12
    have ksm := same_c (pc := pc) (words := words) (el := el) C2.ops X.n.ops
    go_upto_region 15 with fail
    clear y0 y1 y2 y3 y4 y5 y6 y7 y8
    go_upto_region 16 with (first | ((with_reducible refine wpList_load_if rfl 25 _ rfl _ rfl 25 _ (0, 0) _ r12 Try.underlying25 rfl (bl_inf _ _ _ _) ?_); simp only [Act.put, List.setIfInBounds_toArray, List.set_cons_succ, List.set_cons_zero]) | ((with_reducible refine wpList_load_if rfl 25 _ rfl _ rfl 25 _ (0, 0) _ k3 Try.underlying25 rfl (bl_inf _ _ _ _) ?_); simp only [Act.put, List.setIfInBounds_toArray, List.set_cons_succ, List.set_cons_zero]) | (go_at_call 12; (with_reducible refine ksm.mono ?_); clear ksm; rintro e w14 ⟨rfl, B⟩; dsimp only))
    replace X := X.grow B
    replace r10 := keepRow r10 B
    replace r12 := keepRow r12 B
    replace C1 := C1.grow B
    replace C2 := C2.grow B
    clear B k3
    have k3 := X.n.r1
    have k4 := X.n.r2
    have kd1 := does_c (G.grow X.n.below) hpc hR.out hu X.n.ops C1.ops hcapv C1.cap hc
    go_upto_region 17 with (first | ((with_reducible refine wpList_load_if rfl 25 _ rfl _ rfl 25 _ (0, 0) _ r10 Try.underlying25 rfl (bl_inf _ _ _ _) ?_); simp only [Act.put, List.setIfInBounds_toArray, List.set_cons_succ, List.set_cons_zero]) | ((with_reducible refine wpList_load_if rfl 25 _ rfl _ rfl 25 _ (0, 0) _ k3 Try.underlying25 rfl (bl_inf _ _ _ _) ?_); simp only [Act.put, List.setIfInBounds_toArray, List.set_cons_succ, List.set_cons_zero]) | ((with_reducible refine wpList_load_if rfl 29 _ rfl _ rfl 29 _ (0, 0) _ k4 Try.underlying29 rfl (Cor.info _) ?_); simp only [Act.put, List.setIfInBounds_toArray, List.set_cons_succ, List.set_cons_zero]) | (go_at_call 13; (with_reducible refine kd1.mono ?_); clear kd1; rintro e w15 ⟨rfl, B⟩; dsimp only))
    replace X := X.grow B
    replace r12 := keepRow r12 B
    replace C2 := C2.grow B
    clear B k3 k4 r10 C1
    have k3 := X.n.r1
    have k4 := X.n.r2
    have kd2 := does_c (G.grow X.n.below) hpc hR.out hu X.n.ops C2.ops hcapv C2.cap hc
    go_upto_region 18 with (first | ((with_reducible refine wpList_load_if rfl 25 _ rfl _ rfl 25 _ (0, 0) _ r12 Try.underlying25 rfl (bl_inf _ _ _ _) ?_); simp only [Act.put, List.setIfInBounds_toArray, List.set_cons_succ, List.set_cons_zero]) | ((with_reducible refine wpList_load_if rfl 25 _ rfl _ rfl 25 _ (0, 0) _ k3 Try.underlying25 rfl (bl_inf _ _ _ _) ?_); simp only [Act.put, List.setIfInBounds_toArray, List.set_cons_succ, List.set_cons_zero]) | ((with_reducible refine wpList_load_if rfl 29 _ rfl _ rfl 29 _ (0, 0) _ k4 Try.underlying29 rfl (Cor.info _) ?_); simp only [Act.put, List.setIfInBounds_toArray, List.set_cons_succ, List.set_cons_zero]) | (go_at_call 13; (with_reducible refine kd2.mono ?_); clear kd2; rintro e w16 ⟨rfl, B⟩; dsimp only))
    have hB := (X.n.grow B).below
    clear X B k3 k4 r12 C2
    cases decide (layAll l = l)
    all_goals
      go_wp2
      go_ret
      exact ⟨rfl, hB⟩
end
end Go.Proofs.Ytilhjbhhgpoajaa
