/- Zw, Zx, Zy of the seat, joined. -/
import Derived.Test.YtilbnjldfgofmaaZs
import Derived.Test.YtilbnjldfgofmaaZv
import Derived.Test.YtilbnjldfgofmaaTail
import Derived.Test.YtilbnjldfgofmaaZn
import Derived.Test.YtilbnjldfgofmaaZo
import Derived.Test.YtilbnjldfgofmaaZp
import Derived.Test.YtilbnjldfgofmaaZq
/- rewritten. -/
namespace Go.Proofs.Ytilbnjldfgofmaa
open Go.RowKit
set_option linter.unusedVariables false
set_option linter.unusedSimpArgs false
set_option maxRecDepth 8000

theorem keepRow {w x : World} {b : Nat} {cs : Array Value} {t : TypeId} (h : w.heap[b]? = some (.cells cs t)) (hb : Below w.heap.size w x) : x.heap[b]? = some (.cells cs t) := by rw [hb.block b (lt_of_some h)]; exact h
theorem blk_one (pc words el : Int) (v : Value) (hv : v.oneCell' = true) : (blA pc words el v).all (·.oneCell') = true := by
  have hi : ∀ k n, (Value.int k n).oneCell' = true := fun _ _ => rfl
  simp [hv, hi]
theorem back_blockRw {f : Func} {tmps : Array Value} {w : World} {c e : Nat} {rb : Nat} {pc words el : Int} {v : Value} (hf : f.results = #[.cell c 25, .tmp e]) (hp : tmps.getD c undef = ptr rb 0) (hg : w.heap[rb]? = some (.cells (blA pc words el v) 25)) : (results f tmps).run Try.prog w = .ok (.tuple #[blV pc words el v, tmps.getD e undef]) w := by
  rw [results_cell_tmp hf]
  simp [hp, asAddr, run_loadVar_row w rb 25 25 (blA pc words el v) (0, 0) _ hg Try.underlying25 rfl (bl_inf _ _ _ _)]
theorem own_row {w : World} {base gr : Nat} {m : List Opr} (hb : base ≤ gr) (h : w.heap[gr]? = some (.cells (opF m).toArray 40)) (hm : m.length ≤ maxLen) : w.ownsRow base 40 6 (.slice (some ⟨gr, 0, none⟩) m.length m.length) m.length (opF m) :=
  ⟨opF_len m, .inr ⟨gr, m.length, _, rfl, hb, h, Nat.le_refl _, hm, by show (opF m).length = _; exact opF_len m, by show (opF m).take _ = _; rw [List.take_of_length_le (by rw [opF_len]; exact Nat.le_refl _)]⟩⟩
/-- Nothing goes but what the list holds, and the list stays. -/
def Geq (p g cap : Nat) (ids : List Nat) (m : List Opr) (x y : World) : Prop := Goes (Own ids) x y ∧ (LG x p g cap ids m → LG y p g cap ids m)
theorem geq_refl {p g cap : Nat} {ids : List Nat} {m : List Opr} (x : World) : Geq p g cap ids m x x := ⟨Goes.refl _ x, id⟩
/-- While a block is laid down. -/
structure RwC (w : World) (b1 b2 p g cap : Nat) (ids : List Nat) (m : List Opr) (pc words el : Int) (v : Value) (x : World) : Prop where
  r1 : x.heap[b1]? = some (.cells (blA pc words el v) 25)
  r2 : x.heap[b2]? = some (.cells (blA 0 0 0 (.slice none 0 0)) 25)
  lg : LG x p g cap ids m
  low : Below w.heap.size w x
theorem not_own {x : World} {p g cap b : Nat} {ids : List Nat} {m : List Opr} {cs : Array Value} {t : TypeId} (H : LG x p g cap ids m) (h : x.heap[b]? = some (.cells cs t)) (ht : t ≠ 67) : ¬ Own ids b := fun hm => by
  obtain ⟨d, nd⟩ := H.is _ hm
  exact ne_of_type h nd ht rfl
theorem RwC.up {w : World} {b1 b2 p g cap : Nat} {ids : List Nat} {m : List Opr} {pc words el : Int} {v : Value} (ho : ∀ i ∈ ids, w.heap.size ≤ i) : Rel.Up (Geq p g cap ids m) (RwC w b1 b2 p g cap ids m pc words el v) := fun x y h hg =>
  ⟨(hg.1.block b1 (lt_of_some h.r1) (not_own h.lg h.r1 (by decide))).trans h.r1, (hg.1.block b2 (lt_of_some h.r2) (not_own h.lg h.r2 (by decide))).trans h.r2, hg.2 h.lg,
   ⟨hg.1.os.trans h.low.os, hg.1.tape.trans h.low.tape, hg.1.output.trans h.low.output, Nat.le_trans h.low.size hg.1.size, fun k hk => (hg.1.block k (Nat.lt_of_lt_of_le hk h.low.size) (fun q => by have := ho k q; omega)).trans (h.low.block k hk)⟩⟩
def RwD (w0 : World) (ids : List Nat) (m : List Opr) (u : Value) (x : World) : Prop := ∃ gr, w0.heap.size ≤ gr ∧ (∀ i ∈ ids, i ≠ gr) ∧ u = .slice (some ⟨gr, 0, none⟩) m.length m.length ∧ x.heap[gr]? = some (.cells (opF m).toArray 40)
theorem rwD_up {w0 : World} {p g cap : Nat} {ids : List Nat} {m : List Opr} : Rel.upK (Geq p g cap ids m) (.inr (RwD w0 ids m)) := fun u x y h hg => by
  obtain ⟨gr, hl, hn, rfl, hr⟩ := h
  exact ⟨gr, hl, hn, rfl, (hg.1.block gr (lt_of_some hr) (fun q => hn gr q rfl)).trans hr⟩
section
variable {w : World} {pc words el : Int} {v : Value} {l : List Opr} {rg : Nat} {rs : List (Nat × RuleL)} {mu : List Opr → Nat}
/-- What a pass answers. -/
def PassR (w : World) (pc words el : Int) (l m : List Opr) (e : Ending) (w' : World) : Prop := Below w.heap.size w w' ∧
    ((rightB pc words el l = false ∧ e = .returned (.tuple #[blV 0 0 0 (.slice none 0 0), vI 4])) ∨
     (rightB pc words el l = true ∧ ∃ u, e = .returned (.tuple #[blV pc words el u, vI 0]) ∧ w'.ownsRow w.heap.size 40 6 u m.length (opF m)))
set_option maxHeartbeats 8000000 in
theorem rewritten_c (hpc : 0 ≤ pc) (O : Ops w v l) (himm : ∀ k, 0 ≤ (opAt l k).imm) (hcap : ∀ ao n cap, v = .slice ao n cap → n ≤ cap) (hG : GoodR pc words el (allR rs) mu) (hr : Rls w rg rs) (hrs : ∀ r ∈ rs, Tells pc words el r.1 r.2) (hrl : rs.length ≤ 2) :
    Calls Try.prog 25 #[blV pc words el v, .slice (some ⟨rg, 0, none⟩) rs.length rs.length] w (PassR w pc words el l (runF (allR rs) (mu l) l)) := by
  have hb1 := below_alloc w (.cells (blA pc words el v) 25)
  have hb2 := below_alloc (w.alloc (.cells (blA pc words el v) 25)) (.cells #[vU 0, vI 0, vI 0, .slice none 0 0] 25)
  have hB := below_then hb1 (Nat.le_refl _) hb2
  have r1 : ((w.alloc (.cells (blA pc words el v) 25)).alloc (.cells #[vU 0, vI 0, vI 0, .slice none 0 0] 25)).heap[w.heap.size]? = some (.cells (blA pc words el v) 25) := keepRow (heap_alloc_new _ _) hb2
  have r2 : ((w.alloc (.cells (blA pc words el v) 25)).alloc (.cells #[vU 0, vI 0, vI 0, .slice none 0 0] 25)).heap[w.heap.size + 1]? = some (.cells (blA 0 0 0 (.slice none 0 0)) 25) := by
    have := heap_alloc_new (w.alloc (.cells (blA pc words el v) 25)) (.cells #[vU 0, vI 0, vI 0, .slice none 0 0] 25)
    rw [World.size_alloc] at this
    exact this
  have O1 := O.grow hB
  replace hr := hr.grow hB
  have kr := right_c (words := words) (el := el) hpc O1 himm hcap
  clear hb1 hb2
  go_enter Try.func25, Try.ntmps25
  go_upto_region 1 with fail
  generalize (w.alloc (.cells (blA pc words el v) 25)).alloc (.cells #[vU 0, vI 0, vI 0, .slice none 0 0] 25) = w1 at *
  obtain ⟨b1, hw1⟩ : ∃ b1, b1 = w.heap.size := ⟨_, rfl⟩
  obtain ⟨b2, hw2⟩ : ∃ b2, b2 = w.heap.size + 1 := ⟨_, rfl⟩
  rw [← hw2] at r2 ⊢
  rw [← hw1] at r1 ⊢
  have hlo1 : w.heap.size ≤ b1 := by omega
  have hlo2 : w.heap.size ≤ b2 := by omega
  clear hw1 hw2
  cases hR : rightB pc words el l with
  | false =>
    rw [hR] at kr
    go_wp2_with (first | ((with_reducible refine wpList_load_if rfl 25 _ rfl _ rfl 25 _ (0, 0) _ r1 Try.underlying25 rfl (bl_inf _ _ _ _) ?_); simp only [Act.put, List.setIfInBounds_toArray, List.set_cons_succ, List.set_cons_zero]) | (go_at_call 35; (with_reducible refine kr.mono ?_); clear kr; rintro e w2 ⟨rfl, B⟩; dsimp only; replace r2 := keepRow r2 B; replace hB := below_then hB (Nat.le_refl _) B) | ((with_reducible refine wpList_built rfl 25 _ rfl (blA 0 0 0 (.slice none 0 0)) (by kernel_rfl) ?_); simp only [Act.put, List.setIfInBounds_toArray, List.set_cons_succ, List.set_cons_zero]) | ((with_reducible refine wpList_store_row rfl 25 _ _ rfl b2 (blA 0 0 0 (.slice none 0 0)) rfl rfl 25 _ r2 (bl_inf _ _ _ _) rfl (blk_one _ _ _ _ rfl) ?_); simp only [Act.put, List.setIfInBounds_toArray, List.set_cons_succ, List.set_cons_zero]))
    refine bodyPost_ret (back_blockRw rfl rfl (setRow_heap _ _ _ _ _ _ r2)) rfl ?_
    exact ⟨below_setRow hB hlo2, .inl ⟨by first | rfl | exact hR, rfl⟩⟩
  | true =>
    rw [hR] at kr
    obtain ⟨h0, h512, -⟩ := right_lens hR
    replace hR := show Hid _ from hR
    go_upto_region 3 with (first | ((with_reducible refine wpList_load_if rfl 25 _ rfl _ rfl 25 _ (0, 0) _ r1 Try.underlying25 rfl (bl_inf _ _ _ _) ?_); simp only [Act.put, List.setIfInBounds_toArray, List.set_cons_succ, List.set_cons_zero]) | (go_at_call 35; (with_reducible refine kr.mono ?_); clear kr; rintro e w2 ⟨rfl, B⟩; dsimp only))
    replace r1 := keepRow r1 B
    replace r2 := keepRow r2 B
    replace O1 := O1.grow B
    replace hr := hr.grow B
    replace hB := below_then hB (Nat.le_refl _) B
    clear B O
    have kl := listOf_c hR.out O1
    have z3 : w2.cell? ⟨b1, 3, none⟩ = some v := by rw [cell_of_row _ _ _ _ _ _ r1]; rfl
    have v1 : v.oneCell' = true := by obtain ⟨_, _, rfl⟩ := O1.len; rfl
    go_upto_region 4 with (first | (go_at_call 36; (with_reducible refine kl.mono ?_); clear kl; rintro e w3 ⟨p, g, ids, rfl, H, B, hp, hg, hi⟩; dsimp only))
    replace r1 := keepRow r1 B
    replace r2 := keepRow r2 B
    replace O1 := O1.grow B
    replace hr := hr.grow B
    have hs2 := hB.size
    replace hB := below_then hB (Nat.le_refl _) B
    clear B z3
    have kd := doAll_c hG hR.out H hr hrs hrl
    go_upto_region 5 with (first | (go_at_call 40; (with_reducible refine kd.mono ?_); clear kd; rintro e w4 ⟨⟨u, rfl⟩, ids', H', hsub, hgo⟩; dsimp only))
    have hmr : rightB pc words el (runF (allR rs) (mu l) l) = true := (run_all hG (T := fun _ _ => True) (fun _ => trivial) (fun _ _ _ _ _ => trivial) (fun _ _ _ _ _ _ => trivial) (mu l) l hR.out (Nat.le_refl _)).1
    generalize runF (allR rs) (mu l) l = m at *
    have hmm : m.length ≤ maxLen := by have := (right_lens hmr).2.1; simp only [maxLen]; omega
    have nb1 : ¬ OwnL p g ids b1 := fun q => by
      obtain ⟨R, hRr, -⟩ := H.ls.row
      rcases q with e | e | e
      · subst e; exact ne_of_type r1 H.ls.box (by decide) rfl
      · subst e; exact ne_of_type r1 hRr (by decide) rfl
      · obtain ⟨d, nd⟩ := H.is _ e
        exact ne_of_type r1 nd (by decide) rfl
    have nb2 : ¬ OwnL p g ids b2 := fun q => by
      obtain ⟨R, hRr, -⟩ := H.ls.row
      rcases q with e | e | e
      · subst e; exact ne_of_type r2 H.ls.box (by decide) rfl
      · subst e; exact ne_of_type r2 hRr (by decide) rfl
      · obtain ⟨d, nd⟩ := H.is _ e
        exact ne_of_type r2 nd (by decide) rfl
    have hio : ∀ i ∈ ids', w.heap.size ≤ i := fun i hm => Nat.le_trans hs2 (hi i (hsub i hm))
    have s34 := hgo.size
    have hlow4 : Below w.heap.size w w4 := ⟨hgo.os.trans hB.os, hgo.tape.trans hB.tape, hgo.output.trans hB.output, Nat.le_trans hB.size hgo.size, fun k hk => (hgo.block k (Nat.lt_of_lt_of_le hk hB.size) (fun q => by
      rcases q with e | e | e
      · subst e; omega
      · subst e; omega
      · have := hi _ e; omega)).trans (hB.block k hk)⟩
    have r1' := (hgo.block b1 (lt_of_some r1) nb1).trans r1
    have r2' := (hgo.block b2 (lt_of_some r2) nb2).trans r2
    have hst : RwC w b1 b2 p g l.length ids' m pc words el v { w4 with drawn := w4.drawn + 1 } := ⟨keepRow r1' (below_dr w4), keepRow r2' (below_dr w4), H'.grow (below_dr w4), below_then hlow4 (Nat.le_refl _) (below_dr w4)⟩
    clear r1 r2 r1' r2' nb1 nb2 hlow4 hgo H hB hr O1
    refine Rel.wp_region_tail 8 (Geq p g l.length ids' m) (RwC w b1 b2 p g l.length ids' m pc words el v) [.inl (ptr b1 0), .inl (vU pc), .inl (ptr b1 1), .inl (vI words), .inl (ptr b1 2), .inl (vI el), .inl (ptr p 0), .inr (RwD w ids' m)] (by kernel_rfl) (by kernel_rfl) (RwC.up hio) hst (by intro k hk; simp only [List.mem_cons, List.not_mem_nil, or_false] at hk; rcases hk with rfl | rfl | rfl | rfl | rfl | rfl | rfl | rfl <;> first | trivial | exact rwD_up) ?_
    clear hst
    refine ⟨fun w6 hC hF => by go_simp; exact geq_refl _, ?_⟩
    simp only [Act.put, List.setIfInBounds_toArray, List.set_cons_succ, List.set_cons_zero]
    refine ⟨fun w6 hC hF => by have zz : w6.cell? ⟨b1, 0, none⟩ = some (vU pc) := (by rw [cell_of_row _ _ _ _ _ _ hC.r1]; rfl); go_simp; exact geq_refl _, ?_⟩
    simp only [Act.put, List.setIfInBounds_toArray, List.set_cons_succ, List.set_cons_zero]
    refine ⟨fun w6 hC hF => by go_simp; exact geq_refl _, ?_⟩
    simp only [Act.put, List.setIfInBounds_toArray, List.set_cons_succ, List.set_cons_zero]
    refine ⟨fun w6 hC hF => by have zz : w6.cell? ⟨b1, 1, none⟩ = some (vI words) := (by rw [cell_of_row _ _ _ _ _ _ hC.r1]; rfl); go_simp; exact geq_refl _, ?_⟩
    simp only [Act.put, List.setIfInBounds_toArray, List.set_cons_succ, List.set_cons_zero]
    refine ⟨fun w6 hC hF => by go_simp; exact geq_refl _, ?_⟩
    simp only [Act.put, List.setIfInBounds_toArray, List.set_cons_succ, List.set_cons_zero]
    refine ⟨fun w6 hC hF => by have zz : w6.cell? ⟨b1, 2, none⟩ = some (vI el) := (by rw [cell_of_row _ _ _ _ _ _ hC.r1]; rfl); go_simp; exact geq_refl _, ?_⟩
    simp only [Act.put, List.setIfInBounds_toArray, List.set_cons_succ, List.set_cons_zero]
    refine ⟨fun w6 hC hF => by go_simp; exact geq_refl _, ?_⟩
    simp only [Act.put, List.setIfInBounds_toArray, List.set_cons_succ, List.set_cons_zero]
    refine ⟨fun w6 hC hF => by (go_simp; refine (ops_c hmr hC.lg).mono ?_; rintro e w7 ⟨gr, hgr, rfl, hrow, hLG, hgs⟩; first | exact ⟨_, rfl, ⟨hgs, fun _ => hLG⟩, gr, Nat.le_trans hC.low.size hgr, (fun i hm e => by obtain ⟨d, nd⟩ := hC.lg.is i hm; have := nd.lt; omega), rfl, hrow⟩), fun u => ?_⟩
    simp only [Act.put, List.setIfInBounds_toArray, List.set_cons_succ, List.set_cons_zero]
    intro w5 hC hF
    have hown : RwD w ids' m u w5 := (hF 7).1 rfl
    clear hF
    simp only [List.drop_succ_cons, List.drop_zero]
    obtain ⟨gr, hgl, -, rfl, hrow⟩ := hown
    have r2 := hC.r2
    have hB := hC.low
    have own := own_row hgl hrow hmm
    clear hC
    have hne : gr ≠ b2 := fun e => by subst e; exact ne_of_type hrow r2 (by decide) rfl
    (with_reducible refine wpList_built rfl 25 _ rfl (blA pc words el (.slice (some ⟨gr, 0, none⟩) m.length m.length)) (by kernel_rfl) ?_)
    simp only [Act.put, List.setIfInBounds_toArray, List.set_cons_succ, List.set_cons_zero]
    (with_reducible refine wpList_store_row rfl 25 _ _ rfl b2 (blA pc words el (.slice (some ⟨gr, 0, none⟩) m.length m.length)) rfl rfl 25 _ r2 (bl_inf _ _ _ _) rfl (blk_one _ _ _ _ rfl) ?_)
    simp only [Act.put, List.setIfInBounds_toArray, List.set_cons_succ, List.set_cons_zero]
    have z2 := setRow_heap w5 b2 _ (blA pc words el (.slice (some ⟨gr, 0, none⟩) m.length m.length)) _ _ r2
    have hown2 : (w5.setRow b2 (blA pc words el (.slice (some ⟨gr, 0, none⟩) m.length m.length))).ownsRow w.heap.size 40 6 (.slice (some ⟨gr, 0, none⟩) m.length m.length) m.length (opF m) := own_of_block own (fun k hk => by cases hk; exact setRow_other _ _ _ _ hne)
    have hB2 := below_setRow (cs := blA pc words el (.slice (some ⟨gr, 0, none⟩) m.length m.length)) hB hlo2
    generalize w5.setRow b2 (blA pc words el (.slice (some ⟨gr, 0, none⟩) m.length m.length)) = w6 at *
    clear r2 hB own
    go_wp2
    refine bodyPost_ret (back_blockRw rfl rfl z2) rfl ?_
    exact ⟨hB2, .inr ⟨hR.out, _, rfl, hown2⟩⟩
end
end Go.Proofs.Ytilbnjldfgofmaa
/- Merge, Loads, Move. -/
namespace Go.Proofs.Ytilbnjldfgofmaa
open Go.RowKit
set_option linter.unusedVariables false
set_option linter.unusedSimpArgs false
set_option maxRecDepth 8000

theorem all_one (f : Nat) (R : RuleL) : allR [(f, R)] = R := by
  funext l k
  unfold allR
  cases h : R l k <;> simp [h]
theorem all_two (f g : Nat) : allR [(f, againR), (g, overR)] = loadsR := by
  funext l k
  unfold allR loadsR
  cases h : againR l k <;> cases h2 : overR l k <;> simp [h, h2]
theorem own_one {w : World} {base n size : Nat} {e : TypeId} {v : Value} {xs : List Value} (h : w.ownsRow base e size v n xs) : v.oneCell' = true := by
  rcases h.2 with ⟨rfl, -⟩ | ⟨g, cap, cur, rfl, -⟩ <;> rfl
theorem run_rls1 (f : Nat) (w : World) : (Instr.buildSlice 59 1 #[(0, .func (.func f) #[] #[])]).run Try.prog w = .ok (.slice (some ⟨w.heap.size, 0, none⟩) 1 1) (w.alloc (.cells #[.func (.func f) #[] #[]] 92)) := by
  obtain ⟨i, hi, hs, hz⟩ : ∃ i, Try.prog.info? 92 = some i ∧ i.size = 1 ∧ i.zero = some .nilFunc := ⟨_, rfl, rfl, rfl⟩
  exact run_buildSlice (P := Try.prog) w 59 92 1 _ _ i .nilFunc Try.underlying59 hi hz (by rw [hs]; decide) (by rw [hs]; decide) (by rw [hs]; kernel_rfl)
theorem run_rls2 (f g : Nat) (w : World) : (Instr.buildSlice 59 2 #[(0, .func (.func f) #[] #[]), (1, .func (.func g) #[] #[])]).run Try.prog w = .ok (.slice (some ⟨w.heap.size, 0, none⟩) 2 2) (w.alloc (.cells #[.func (.func f) #[] #[], .func (.func g) #[] #[]] 92)) := by
  obtain ⟨i, hi, hs, hz⟩ : ∃ i, Try.prog.info? 92 = some i ∧ i.size = 1 ∧ i.zero = some .nilFunc := ⟨_, rfl, rfl, rfl⟩
  exact run_buildSlice (P := Try.prog) w 59 92 2 _ _ i .nilFunc Try.underlying59 hi hz (by rw [hs]; decide) (by rw [hs]; decide) (by rw [hs]; kernel_rfl)
theorem wpList_rls1 {ops : Array Oper} {rest : List Oper} {o : Oper} {a : Act} {w : World} {Q : Exit → Act → World → Prop} (hg : o.guard = none) (r t : TypeId) (f : Nat) (ho : o.op = .buildSlice 59 1 #[(0, .func f)])
    (h : wpList Try.prog ops Q rest (a.put o.dst (.slice (some ⟨w.heap.size, 0, none⟩) 1 1)) (w.alloc (.cells #[.func (.func f) #[] #[]] 92))) : wpList Try.prog ops Q (o :: rest) a w :=
  wpList_plain hg fun _ hK => by
    unfold Oper.wp execOp
    simp only [ho, Sem.run_bind]
    have e : (#[(0, Operand.func f)] : Array (Nat × Operand)).map (fun (i, x) => (i, a.eval x)) = #[(0, Value.func (.func f) #[] #[])] := by rw [List.map_toArray]; rfl
    rw [e, run_rls1 f w]
    exact hK _ _ h
theorem wpList_rls2 {ops : Array Oper} {rest : List Oper} {o : Oper} {a : Act} {w : World} {Q : Exit → Act → World → Prop} (hg : o.guard = none) (r t : TypeId) (f g : Nat) (ho : o.op = .buildSlice 59 2 #[(0, .func f), (1, .func g)])
    (h : wpList Try.prog ops Q rest (a.put o.dst (.slice (some ⟨w.heap.size, 0, none⟩) 2 2)) (w.alloc (.cells #[.func (.func f) #[] #[], .func (.func g) #[] #[]] 92))) : wpList Try.prog ops Q (o :: rest) a w :=
  wpList_plain hg fun _ hK => by
    unfold Oper.wp execOp
    simp only [ho, Sem.run_bind]
    have e : (#[(0, Operand.func f), (1, Operand.func g)] : Array (Nat × Operand)).map (fun (i, x) => (i, a.eval x)) = #[(0, Value.func (.func f) #[] #[]), (1, Value.func (.func g) #[] #[])] := by rw [List.map_toArray]; rfl
    rw [e, run_rls2 f g w]
    exact hK _ _ h
section
variable {pc words el : Int}
theorem tells_merge : Tells pc words el 26 mergeR := ⟨enters_of Try.func26 (by kernel_rfl) rfl, fun w p g cap ids l k h H hk => merge_c h H hk⟩
theorem tells_again : Tells pc words el 27 againR := ⟨enters_of Try.func27 (by kernel_rfl) rfl, fun w p g cap ids l k h H hk => again_c h H hk⟩
theorem tells_over : Tells pc words el 28 overR := ⟨enters_of Try.func28 (by kernel_rfl) rfl, fun w p g cap ids l k h H hk => over_c h H hk⟩
theorem tells_ahead : Tells pc words el 29 aheadR := ⟨enters_of Try.func29 (by kernel_rfl) rfl, fun w p g cap ids l k h H hk => ahead_c h H hk⟩
variable {w : World} {v : Value} {l : List Opr}
set_option maxHeartbeats 8000000 in
theorem merge_pass (hpc : 0 ≤ pc) (O : Ops w v l) (himm : ∀ k, 0 ≤ (opAt l k).imm) (hcap : ∀ ao n cap, v = .slice ao n cap → n ≤ cap) : Calls Try.prog 10 #[blV pc words el v] w (PassR w pc words el l (mergeL l)) := by
  have hb1 := below_alloc w (.cells (blA pc words el v) 25)
  have hb2 := below_alloc (w.alloc (.cells (blA pc words el v) 25)) (.cells #[vU 0, vI 0, vI 0, .slice none 0 0] 25)
  have hB := below_then hb1 (Nat.le_refl _) hb2
  have r1 : ((w.alloc (.cells (blA pc words el v) 25)).alloc (.cells #[vU 0, vI 0, vI 0, .slice none 0 0] 25)).heap[w.heap.size]? = some (.cells (blA pc words el v) 25) := keepRow (heap_alloc_new _ _) hb2
  have r2 : ((w.alloc (.cells (blA pc words el v) 25)).alloc (.cells #[vU 0, vI 0, vI 0, .slice none 0 0] 25)).heap[w.heap.size + 1]? = some (.cells (blA 0 0 0 (.slice none 0 0)) 25) := by
    have := heap_alloc_new (w.alloc (.cells (blA pc words el v) 25)) (.cells #[vU 0, vI 0, vI 0, .slice none 0 0] 25)
    rw [World.size_alloc] at this
    exact this
  have O1 := O.grow hB
  clear hb1 hb2
  go_enter Try.func10, Try.ntmps10
  go_upto_region 1 with fail
  generalize (w.alloc (.cells (blA pc words el v) 25)).alloc (.cells #[vU 0, vI 0, vI 0, .slice none 0 0] 25) = w1 at *
  obtain ⟨b1, hw1⟩ : ∃ b1, b1 = w.heap.size := ⟨_, rfl⟩
  obtain ⟨b2, hw2⟩ : ∃ b2, b2 = w.heap.size + 1 := ⟨_, rfl⟩
  rw [← hw2] at r2 ⊢
  rw [← hw1] at r1 ⊢
  have hlo2 : w.heap.size ≤ b2 := by omega
  clear hw1 hw2
  have hb3 := below_alloc w1 (.cells #[.func (.func 26) #[] #[]] 92)
  have hR3 : Rls (w1.alloc (.cells #[.func (.func 26) #[] #[]] 92)) w1.heap.size [(26, mergeR)] := heap_alloc_new _ _
  have kr := rewritten_c (mu := List.length) (rs := [(26, mergeR)]) (words := words) (el := el) hpc (O1.grow hb3) himm hcap (by rw [all_one]; exact good_merge) hR3 (by intro r hr; simp only [List.mem_cons, List.not_mem_nil, or_false] at hr; subst hr; exact tells_merge) (by decide)
  rw [show (runF (allR [(26, mergeR)]) (List.length l) l) = mergeL l by unfold mergeL; rw [all_one]] at kr
  replace kr : Calls Try.prog 25 #[.agg (blA pc words el v), .slice (some ⟨w1.heap.size, 0, none⟩) 1 1] (w1.alloc (.cells #[.func (.func 26) #[] #[]] 92)) (PassR (w1.alloc (.cells #[.func (.func 26) #[] #[]] 92)) pc words el l (mergeL l)) := kr
  have r2' := keepRow r2 hb3
  replace hB := below_then hB (Nat.le_refl _) hb3
  clear hb3 hR3 O1
  cases hR : rightB pc words el l with
  | false =>
    replace hR := show Hid _ from hR
    go_wp2_with (first | ((with_reducible refine wpList_load_if rfl 25 _ rfl _ rfl 25 _ (0, 0) _ r1 Try.underlying25 rfl (bl_inf _ _ _ _) ?_); simp only [Act.put, List.setIfInBounds_toArray, List.set_cons_succ, List.set_cons_zero]) | ((with_reducible refine wpList_rls1 rfl 92 59 _ rfl ?_); simp only [Act.put, List.setIfInBounds_toArray, List.set_cons_succ, List.set_cons_zero]) | (go_at_call 25; (with_reducible refine kr.mono ?_); clear kr; rintro e w7 ⟨B, ⟨hr, rfl⟩ | ⟨hr, _⟩⟩; rotate_left; (exfalso; rw [hR.out] at hr; cases hr); dsimp only; clear hr; replace r2' := keepRow r2' B; replace hB := below_then hB (Nat.le_refl _) B) | ((with_reducible refine wpList_store_row rfl 25 _ _ rfl b2 (blA 0 0 0 (.slice none 0 0)) rfl rfl 25 _ r2' (bl_inf _ _ _ _) rfl (blk_one _ _ _ _ rfl) ?_); simp only [Act.put, List.setIfInBounds_toArray, List.set_cons_succ, List.set_cons_zero]))
    refine bodyPost_ret (back_blockRw rfl rfl (setRow_heap _ _ _ _ _ _ r2')) rfl ?_
    exact ⟨below_setRow hB hlo2, .inl ⟨hR.out, rfl⟩⟩
  | true =>
    replace hR := show Hid _ from hR
    have hsz := hB.size
    go_wp2_with (first | ((with_reducible refine wpList_load_if rfl 25 _ rfl _ rfl 25 _ (0, 0) _ r1 Try.underlying25 rfl (bl_inf _ _ _ _) ?_); simp only [Act.put, List.setIfInBounds_toArray, List.set_cons_succ, List.set_cons_zero]) | ((with_reducible refine wpList_rls1 rfl 92 59 _ rfl ?_); simp only [Act.put, List.setIfInBounds_toArray, List.set_cons_succ, List.set_cons_zero]) | (go_at_call 25; (with_reducible refine kr.mono ?_); clear kr; rintro e w7 ⟨B, ⟨hr, _⟩ | ⟨hr, u, rfl, hown⟩⟩; (exfalso; rw [hR.out] at hr; cases hr); dsimp only; clear hr; replace r2' := keepRow r2' B; replace hB := below_then hB (Nat.le_refl _) B; have hone : u.oneCell' = true := own_one hown) | ((with_reducible refine wpList_store_row rfl 25 _ _ rfl b2 (blA pc words el u) rfl rfl 25 _ r2' (bl_inf _ _ _ _) rfl (blk_one _ _ _ _ hone) ?_); simp only [Act.put, List.setIfInBounds_toArray, List.set_cons_succ, List.set_cons_zero]))
    refine bodyPost_ret (back_blockRw rfl rfl (setRow_heap _ _ _ _ _ _ r2')) rfl ?_
    exact ⟨below_setRow hB hlo2, .inr ⟨hR.out, u, rfl, own_mono (own_of_block hown (fun k hk => setRow_other _ _ _ _ (fun e => own_ne r2' hown (by decide) (by rw [hk, e])))) hsz⟩⟩
set_option maxHeartbeats 8000000 in
theorem loads_pass (hpc : 0 ≤ pc) (O : Ops w v l) (himm : ∀ k, 0 ≤ (opAt l k).imm) (hcap : ∀ ao n cap, v = .slice ao n cap → n ≤ cap) : Calls Try.prog 11 #[blV pc words el v] w (PassR w pc words el l (loadsL l)) := by
  have hb1 := below_alloc w (.cells (blA pc words el v) 25)
  have hb2 := below_alloc (w.alloc (.cells (blA pc words el v) 25)) (.cells #[vU 0, vI 0, vI 0, .slice none 0 0] 25)
  have hB := below_then hb1 (Nat.le_refl _) hb2
  have r1 : ((w.alloc (.cells (blA pc words el v) 25)).alloc (.cells #[vU 0, vI 0, vI 0, .slice none 0 0] 25)).heap[w.heap.size]? = some (.cells (blA pc words el v) 25) := keepRow (heap_alloc_new _ _) hb2
  have r2 : ((w.alloc (.cells (blA pc words el v) 25)).alloc (.cells #[vU 0, vI 0, vI 0, .slice none 0 0] 25)).heap[w.heap.size + 1]? = some (.cells (blA 0 0 0 (.slice none 0 0)) 25) := by
    have := heap_alloc_new (w.alloc (.cells (blA pc words el v) 25)) (.cells #[vU 0, vI 0, vI 0, .slice none 0 0] 25)
    rw [World.size_alloc] at this
    exact this
  have O1 := O.grow hB
  clear hb1 hb2
  go_enter Try.func11, Try.ntmps11
  go_upto_region 1 with fail
  generalize (w.alloc (.cells (blA pc words el v) 25)).alloc (.cells #[vU 0, vI 0, vI 0, .slice none 0 0] 25) = w1 at *
  obtain ⟨b1, hw1⟩ : ∃ b1, b1 = w.heap.size := ⟨_, rfl⟩
  obtain ⟨b2, hw2⟩ : ∃ b2, b2 = w.heap.size + 1 := ⟨_, rfl⟩
  rw [← hw2] at r2 ⊢
  rw [← hw1] at r1 ⊢
  have hlo2 : w.heap.size ≤ b2 := by omega
  clear hw1 hw2
  have hb3 := below_alloc w1 (.cells #[.func (.func 27) #[] #[], .func (.func 28) #[] #[]] 92)
  have hR3 : Rls (w1.alloc (.cells #[.func (.func 27) #[] #[], .func (.func 28) #[] #[]] 92)) w1.heap.size [(27, againR), (28, overR)] := heap_alloc_new _ _
  have kr := rewritten_c (mu := List.length) (rs := [(27, againR), (28, overR)]) (words := words) (el := el) hpc (O1.grow hb3) himm hcap (by rw [all_two]; exact good_loads) hR3 (by intro r hr; simp only [List.mem_cons, List.not_mem_nil, or_false] at hr; rcases hr with rfl | rfl; exact tells_again; exact tells_over) (by decide)
  rw [show (runF (allR [(27, againR), (28, overR)]) (List.length l) l) = loadsL l by unfold loadsL; rw [all_two]] at kr
  replace kr : Calls Try.prog 25 #[.agg (blA pc words el v), .slice (some ⟨w1.heap.size, 0, none⟩) 2 2] (w1.alloc (.cells #[.func (.func 27) #[] #[], .func (.func 28) #[] #[]] 92)) (PassR (w1.alloc (.cells #[.func (.func 27) #[] #[], .func (.func 28) #[] #[]] 92)) pc words el l (loadsL l)) := kr
  have r2' := keepRow r2 hb3
  replace hB := below_then hB (Nat.le_refl _) hb3
  clear hb3 hR3 O1
  cases hR : rightB pc words el l with
  | false =>
    replace hR := show Hid _ from hR
    go_wp2_with (first | ((with_reducible refine wpList_load_if rfl 25 _ rfl _ rfl 25 _ (0, 0) _ r1 Try.underlying25 rfl (bl_inf _ _ _ _) ?_); simp only [Act.put, List.setIfInBounds_toArray, List.set_cons_succ, List.set_cons_zero]) | ((with_reducible refine wpList_rls2 rfl 92 59 _ _ rfl ?_); simp only [Act.put, List.setIfInBounds_toArray, List.set_cons_succ, List.set_cons_zero]) | (go_at_call 25; (with_reducible refine kr.mono ?_); clear kr; rintro e w7 ⟨B, ⟨hr, rfl⟩ | ⟨hr, _⟩⟩; rotate_left; (exfalso; rw [hR.out] at hr; cases hr); dsimp only; clear hr; replace r2' := keepRow r2' B; replace hB := below_then hB (Nat.le_refl _) B) | ((with_reducible refine wpList_store_row rfl 25 _ _ rfl b2 (blA 0 0 0 (.slice none 0 0)) rfl rfl 25 _ r2' (bl_inf _ _ _ _) rfl (blk_one _ _ _ _ rfl) ?_); simp only [Act.put, List.setIfInBounds_toArray, List.set_cons_succ, List.set_cons_zero]))
    refine bodyPost_ret (back_blockRw rfl rfl (setRow_heap _ _ _ _ _ _ r2')) rfl ?_
    exact ⟨below_setRow hB hlo2, .inl ⟨hR.out, rfl⟩⟩
  | true =>
    replace hR := show Hid _ from hR
    have hsz := hB.size
    go_wp2_with (first | ((with_reducible refine wpList_load_if rfl 25 _ rfl _ rfl 25 _ (0, 0) _ r1 Try.underlying25 rfl (bl_inf _ _ _ _) ?_); simp only [Act.put, List.setIfInBounds_toArray, List.set_cons_succ, List.set_cons_zero]) | ((with_reducible refine wpList_rls2 rfl 92 59 _ _ rfl ?_); simp only [Act.put, List.setIfInBounds_toArray, List.set_cons_succ, List.set_cons_zero]) | (go_at_call 25; (with_reducible refine kr.mono ?_); clear kr; rintro e w7 ⟨B, ⟨hr, _⟩ | ⟨hr, u, rfl, hown⟩⟩; (exfalso; rw [hR.out] at hr; cases hr); dsimp only; clear hr; replace r2' := keepRow r2' B; replace hB := below_then hB (Nat.le_refl _) B; have hone : u.oneCell' = true := own_one hown) | ((with_reducible refine wpList_store_row rfl 25 _ _ rfl b2 (blA pc words el u) rfl rfl 25 _ r2' (bl_inf _ _ _ _) rfl (blk_one _ _ _ _ hone) ?_); simp only [Act.put, List.setIfInBounds_toArray, List.set_cons_succ, List.set_cons_zero]))
    refine bodyPost_ret (back_blockRw rfl rfl (setRow_heap _ _ _ _ _ _ r2')) rfl ?_
    exact ⟨below_setRow hB hlo2, .inr ⟨hR.out, u, rfl, own_mono (own_of_block hown (fun k hk => setRow_other _ _ _ _ (fun e => own_ne r2' hown (by decide) (by rw [hk, e])))) hsz⟩⟩
set_option maxHeartbeats 8000000 in
theorem move_pass (hpc : 0 ≤ pc) (O : Ops w v l) (himm : ∀ k, 0 ≤ (opAt l k).imm) (hcap : ∀ ao n cap, v = .slice ao n cap → n ≤ cap) : Calls Try.prog 12 #[blV pc words el v] w (PassR w pc words el l (moveL l)) := by
  have hb1 := below_alloc w (.cells (blA pc words el v) 25)
  have hb2 := below_alloc (w.alloc (.cells (blA pc words el v) 25)) (.cells #[vU 0, vI 0, vI 0, .slice none 0 0] 25)
  have hB := below_then hb1 (Nat.le_refl _) hb2
  have r1 : ((w.alloc (.cells (blA pc words el v) 25)).alloc (.cells #[vU 0, vI 0, vI 0, .slice none 0 0] 25)).heap[w.heap.size]? = some (.cells (blA pc words el v) 25) := keepRow (heap_alloc_new _ _) hb2
  have r2 : ((w.alloc (.cells (blA pc words el v) 25)).alloc (.cells #[vU 0, vI 0, vI 0, .slice none 0 0] 25)).heap[w.heap.size + 1]? = some (.cells (blA 0 0 0 (.slice none 0 0)) 25) := by
    have := heap_alloc_new (w.alloc (.cells (blA pc words el v) 25)) (.cells #[vU 0, vI 0, vI 0, .slice none 0 0] 25)
    rw [World.size_alloc] at this
    exact this
  have O1 := O.grow hB
  clear hb1 hb2
  go_enter Try.func12, Try.ntmps12
  go_upto_region 1 with fail
  generalize (w.alloc (.cells (blA pc words el v) 25)).alloc (.cells #[vU 0, vI 0, vI 0, .slice none 0 0] 25) = w1 at *
  obtain ⟨b1, hw1⟩ : ∃ b1, b1 = w.heap.size := ⟨_, rfl⟩
  obtain ⟨b2, hw2⟩ : ∃ b2, b2 = w.heap.size + 1 := ⟨_, rfl⟩
  rw [← hw2] at r2 ⊢
  rw [← hw1] at r1 ⊢
  have hlo2 : w.heap.size ≤ b2 := by omega
  clear hw1 hw2
  have hb3 := below_alloc w1 (.cells #[.func (.func 29) #[] #[]] 92)
  have hR3 : Rls (w1.alloc (.cells #[.func (.func 29) #[] #[]] 92)) w1.heap.size [(29, aheadR)] := heap_alloc_new _ _
  have kr := rewritten_c (mu := muL) (rs := [(29, aheadR)]) (words := words) (el := el) hpc (O1.grow hb3) himm hcap (by rw [all_one]; exact good_ahead) hR3 (by intro r hr; simp only [List.mem_cons, List.not_mem_nil, or_false] at hr; subst hr; exact tells_ahead) (by decide)
  rw [show (runF (allR [(29, aheadR)]) (muL l) l) = moveL l by unfold moveL; rw [all_one]] at kr
  replace kr : Calls Try.prog 25 #[.agg (blA pc words el v), .slice (some ⟨w1.heap.size, 0, none⟩) 1 1] (w1.alloc (.cells #[.func (.func 29) #[] #[]] 92)) (PassR (w1.alloc (.cells #[.func (.func 29) #[] #[]] 92)) pc words el l (moveL l)) := kr
  have r2' := keepRow r2 hb3
  replace hB := below_then hB (Nat.le_refl _) hb3
  clear hb3 hR3 O1
  cases hR : rightB pc words el l with
  | false =>
    replace hR := show Hid _ from hR
    go_wp2_with (first | ((with_reducible refine wpList_load_if rfl 25 _ rfl _ rfl 25 _ (0, 0) _ r1 Try.underlying25 rfl (bl_inf _ _ _ _) ?_); simp only [Act.put, List.setIfInBounds_toArray, List.set_cons_succ, List.set_cons_zero]) | ((with_reducible refine wpList_rls1 rfl 92 59 _ rfl ?_); simp only [Act.put, List.setIfInBounds_toArray, List.set_cons_succ, List.set_cons_zero]) | (go_at_call 25; (with_reducible refine kr.mono ?_); clear kr; rintro e w7 ⟨B, ⟨hr, rfl⟩ | ⟨hr, _⟩⟩; rotate_left; (exfalso; rw [hR.out] at hr; cases hr); dsimp only; clear hr; replace r2' := keepRow r2' B; replace hB := below_then hB (Nat.le_refl _) B) | ((with_reducible refine wpList_store_row rfl 25 _ _ rfl b2 (blA 0 0 0 (.slice none 0 0)) rfl rfl 25 _ r2' (bl_inf _ _ _ _) rfl (blk_one _ _ _ _ rfl) ?_); simp only [Act.put, List.setIfInBounds_toArray, List.set_cons_succ, List.set_cons_zero]))
    refine bodyPost_ret (back_blockRw rfl rfl (setRow_heap _ _ _ _ _ _ r2')) rfl ?_
    exact ⟨below_setRow hB hlo2, .inl ⟨hR.out, rfl⟩⟩
  | true =>
    replace hR := show Hid _ from hR
    have hsz := hB.size
    go_wp2_with (first | ((with_reducible refine wpList_load_if rfl 25 _ rfl _ rfl 25 _ (0, 0) _ r1 Try.underlying25 rfl (bl_inf _ _ _ _) ?_); simp only [Act.put, List.setIfInBounds_toArray, List.set_cons_succ, List.set_cons_zero]) | ((with_reducible refine wpList_rls1 rfl 92 59 _ rfl ?_); simp only [Act.put, List.setIfInBounds_toArray, List.set_cons_succ, List.set_cons_zero]) | (go_at_call 25; (with_reducible refine kr.mono ?_); clear kr; rintro e w7 ⟨B, ⟨hr, _⟩ | ⟨hr, u, rfl, hown⟩⟩; (exfalso; rw [hR.out] at hr; cases hr); dsimp only; clear hr; replace r2' := keepRow r2' B; replace hB := below_then hB (Nat.le_refl _) B; have hone : u.oneCell' = true := own_one hown) | ((with_reducible refine wpList_store_row rfl 25 _ _ rfl b2 (blA pc words el u) rfl rfl 25 _ r2' (bl_inf _ _ _ _) rfl (blk_one _ _ _ _ hone) ?_); simp only [Act.put, List.setIfInBounds_toArray, List.set_cons_succ, List.set_cons_zero]))
    refine bodyPost_ret (back_blockRw rfl rfl (setRow_heap _ _ _ _ _ _ r2')) rfl ?_
    exact ⟨below_setRow hB hlo2, .inr ⟨hR.out, u, rfl, own_mono (own_of_block hown (fun k hk => setRow_other _ _ _ _ (fun e => own_ne r2' hown (by decide) (by rw [hk, e])))) hsz⟩⟩
end
end Go.Proofs.Ytilbnjldfgofmaa
/- May. -/
namespace Go.Proofs.Ytilbnjldfgofmaa
open Go.RowKit
set_option linter.unusedVariables false
set_option linter.unusedSimpArgs false
set_option maxRecDepth 8000

/-- What May tells. -/
def mayL (pc words el : Int) (l : List Opr) (i : Int) : Bool × Int := if rightB pc words el l = true then (if i < 0 ∨ (l.length : Int) ≤ i then (false, 1) else ((aheadR l i.toNat).isSome, 0)) else (false, 4)
section
variable {pc words el i : Int} {w : World} {v : Value} {l : List Opr}
set_option maxHeartbeats 4000000 in
theorem may_c (hpc : 0 ≤ pc) (O : Ops w v l) (himm : ∀ k, 0 ≤ (opAt l k).imm) (hcap : ∀ ao n cap, v = .slice ao n cap → n ≤ cap) : Calls Try.prog 17 #[blV pc words el v, vI i] w fun e w' => e = .returned (.tuple #[.bool (mayL pc words el l i).1, vI (mayL pc words el l i).2]) ∧ Below w.heap.size w w' := by
  have hb1 := below_alloc w (.cells (blA pc words el v) 25)
  have r1 : (w.alloc (.cells (blA pc words el v) 25)).heap[w.heap.size]? = some (.cells (blA pc words el v) 25) := heap_alloc_new _ _
  have O1 := O.grow hb1
  have kr := right_c (words := words) (el := el) hpc O1 himm hcap
  obtain ⟨res, hres⟩ : ∃ r, r = mayL pc words el l i := ⟨_, rfl⟩
  rw [← hres]
  go_enter Try.func17, Try.ntmps17
  go_upto_region 1 with fail
  generalize w.alloc (.cells (blA pc words el v) 25) = w1 at *
  obtain ⟨b1, hw1⟩ : ∃ b1, b1 = w.heap.size := ⟨_, rfl⟩
  rw [← hw1] at r1 ⊢
  clear hw1
  cases hR : rightB pc words el l with
  | false =>
    rw [hR] at kr
    have hm : mayL pc words el l i = (false, 4) := by unfold mayL; rw [hR]; rfl
    rw [hm] at hres
    subst hres
    go_wp2_with (first | ((with_reducible refine wpList_load_if rfl 25 _ rfl _ rfl 25 _ (0, 0) _ r1 Try.underlying25 rfl (bl_inf _ _ _ _) ?_); simp only [Act.put, List.setIfInBounds_toArray, List.set_cons_succ, List.set_cons_zero]) | (go_at_call 35; (with_reducible refine kr.mono ?_); clear kr; rintro e w2 ⟨rfl, B⟩; dsimp only; replace hb1 := below_then hb1 (Nat.le_refl _) B))
    go_ret2
    exact ⟨rfl, hb1⟩
  | true =>
    rw [hR] at kr
    obtain ⟨h0, h512, -⟩ := right_lens hR
    have hm : mayL pc words el l i = (if i < 0 ∨ (l.length : Int) ≤ i then (false, 1) else ((aheadR l i.toNat).isSome, 0)) := by unfold mayL; rw [if_pos hR]
    rw [hm] at hres
    replace hR := show Hid _ from hR
    go_upto_region 3 with (first | ((with_reducible refine wpList_load_if rfl 25 _ rfl _ rfl 25 _ (0, 0) _ r1 Try.underlying25 rfl (bl_inf _ _ _ _) ?_); simp only [Act.put, List.setIfInBounds_toArray, List.set_cons_succ, List.set_cons_zero]) | (go_at_call 35; (with_reducible refine kr.mono ?_); clear kr; rintro e w2 ⟨rfl, B⟩; dsimp only))
    replace r1 := keepRow r1 B
    replace O1 := O1.grow B
    replace hb1 := below_then hb1 (Nat.le_refl _) B
    clear B O hm
    have kl := listOf_c hR.out O1
    have z3 : w2.cell? ⟨b1, 3, none⟩ = some v := by rw [cell_of_row _ _ _ _ _ _ r1]; rfl
    obtain ⟨ao, cap, rfl⟩ := O1.len
    by_cases hi : i < 0
    · rw [if_pos (.inl hi)] at hres
      subst hres
      go_wp2
      go_ret2
      exact ⟨rfl, hb1⟩
    · by_cases hj : (l.length : Int) ≤ i
      · rw [if_pos (.inr hj)] at hres
        subst hres
        go_wp2
        go_ret2
        exact ⟨rfl, hb1⟩
      · rw [if_neg (fun q => q.elim hi hj)] at hres
        obtain ⟨k, rfl⟩ : ∃ k : Nat, i = k := ⟨i.toNat, by omega⟩
        rw [Int.toNat_natCast] at hres
        have hk : k < l.length := by omega
        have hf := fun (fn : Fn) (a b : Array Value) w => neq_func Try.underlying1 fn a b w
        have hn := fun w => neq_nil Try.underlying1 w
        go_upto_region 5 with fail
        go_wp2_with (first | (go_at_call 36; (with_reducible refine kl.mono ?_); clear kl; rintro e w3 ⟨p, g, ids, rfl, H, B, -, -, -⟩; dsimp only; replace hb1 := below_then hb1 (Nat.le_refl _) B; have ka := ahead_c hR.out H hk) | (go_at_call 29; (with_reducible refine ka.mono ?_); clear ka; rintro e w4 ⟨B4, u, rfl, ⟨hs, rfl⟩ | ⟨l', hs, f, cs, rfl, -, -⟩⟩; all_goals (dsimp only; rw [hs] at hres; subst hres; replace hb1 := below_then hb1 (Nat.le_refl _) B4)))
        all_goals (go_ret2; exact ⟨rfl, hb1⟩)
end
end Go.Proofs.Ytilbnjldfgofmaa
