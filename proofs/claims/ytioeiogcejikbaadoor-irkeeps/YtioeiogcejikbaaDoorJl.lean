/- New. -/
import Derived.Test.YtioeiogcejikbaaDoorJk
namespace Go.Proofs.YtioeiogcejikbaaDoor
open Go.RowKit
set_option linter.unusedVariables false
set_option linter.unusedSimpArgs false
set_option maxRecDepth 8000

section
variable {l : List Opr} {w w' : World} {pc words el : Int} {v : Value} {c : Cor} {b1 b2 : Nat}
theorem own_grow6 {w w' : World} {base : Nat} {v : Value} {n : Nat} {xs : List Value} (h : w.ownsRow base 42 6 v n xs) (hb : Below w.heap.size w w') : w'.ownsRow base 42 6 v n xs :=
  own_of_block h (fun k hk => hb.block k (h.lt k hk).2)
theorem rel_mk {E : List PanicEntry → World → Prop} {F : Value → World → Prop} {o : Oper} {a : Act} {x : Operand} {n : Nat} (hn : n ≤ 512) (hF : F (.slice (some ⟨w.heap.size, 0, none⟩) n n) (w.alloc (.cells ((List.replicate n (0 : Int)).map vU).toArray 22))) (ho : o.op = .makeSlice 58 x x := by rfl) (hx : a.eval x = vI n := by rfl) : RelQ.relUpon Tryd.prog RelQ.Grows E F w ((execOp a.eval o).run Tryd.prog w) := by
  unfold execOp
  simp only [ho, hx, Sem.run_bind, run_mk w n hn, Result.andThen_ok, Sem.run_pure]
  exact ⟨below_alloc _ _, hF⟩
theorem rel_load29 {E : List PanicEntry → World → Prop} {o : Oper} {a : Act} {x : Operand} {b : Nat} (hr : w.heap[b]? = some (.cells c.cells 29)) (ho : o.op = .load 29 x := by rfl) (hx : a.eval x = ptr b 0 := by rfl) : RelQ.relUpon Tryd.prog RelQ.Grows E (fun v _ => v = c.val) w ((execOp a.eval o).run Tryd.prog w) := by
  have h := run_loadVar_row w b 29 29 c.cells (0, 0) _ hr Tryd.underlying29 rfl c.info
  unfold execOp
  simp only [ho, hx, Instr.loadAt, Instr.sureAddr, Sem.run_bind, Sem.run_pure, Result.andThen_ok, h]
  exact ⟨RelQ.grows_refl _, rfl⟩
theorem rel_new8 {E : List PanicEntry → World → Prop} {o : Oper} {a : Act} {x y z : Operand} {B : Nat} {u2 u6 : Value} (h2 : w.ownsRow B 42 6 u2 l.length (opF l)) (h6 : ∃ vb, u6 = .slice (some ⟨vb, 0, none⟩) l.length l.length ∧ w.heap[vb]? = some (.cells (((List.replicate l.length (0 : Int)).map vU).toArray) 22) ∧ B ≤ vb)
    (ho : o.op = .build 61 #[(0, x), (1, y), (3, z)] := by rfl) (hx : a.eval x = u2 := by rfl) (hy : a.eval y = u6 := by rfl) (hz : a.eval z = c.val := by rfl) : RelQ.relUpon Tryd.prog RelQ.Grows E (fun u x => ∃ vb so, u = .agg (rnA so (.slice (some ⟨vb, 0, none⟩) l.length l.length) 0 (newS l.length c)) ∧ x.ownsRow B 42 6 so l.length (opF l) ∧ x.heap[vb]? = some (.cells (((List.replicate l.length (0 : Int)).map vU).toArray) 22) ∧ B ≤ vb ∧ so.oneCell' = true) w ((execOp a.eval o).run Tryd.prog w) := by
  obtain ⟨vb, rfl, h1, h3⟩ := h6
  obtain ⟨ao, cap, rfl, _⟩ := own_len h2
  have hb := run_build (P := Tryd.prog) w 61 #[(0, .slice ao l.length cap), (1, .slice (some ⟨vb, 0, none⟩) l.length l.length), (3, c.val)] _ (built61 ao l.length cap vb l.length c 0)
  unfold execOp
  simp only [ho, List.map_toArray, List.map_cons, List.map_nil, hx, hy, hz, Sem.run_bind, hb, Result.andThen_ok, Sem.run_pure]
  exact ⟨RelQ.grows_refl _, vb, _, rfl, h2, h1, h3, rfl⟩
theorem newS_ok (hok : CorOk c) (hel : c.el = 0 ∨ c.el = 1) (n : Nat) : (newS n c).Ok := ⟨hok.x, hok.sp0, hok.sp1, hel, fun v hv => by
  have := List.eq_of_mem_replicate (show v ∈ List.replicate n (0 : Int) from hv)
  rw [this]; exact ⟨by decide, by decide⟩⟩
theorem rel_box8 {E : List PanicEntry → World → Prop} {o : Oper} {a : Act} {x : Operand} {B : Nat} {u8 : Value} (hok : (newS l.length c).Ok) (hC : NwC w' pc words el v l c b1 b2 w) (h8 : ∃ vb so, u8 = .agg (rnA so (.slice (some ⟨vb, 0, none⟩) l.length l.length) 0 (newS l.length c)) ∧ w.ownsRow B 42 6 so l.length (opF l) ∧ w.heap[vb]? = some (.cells (((List.replicate l.length (0 : Int)).map vU).toArray) 22) ∧ B ≤ vb ∧ so.oneCell' = true) (h0 : 0 < l.length) (hl : l.length ≤ 512) (hB : B ≤ w.heap.size)
    (ho : o.op = .box 61 x := by rfl) (hx : a.eval x = u8 := by rfl) : RelQ.relUpon Tryd.prog RelQ.Grows E (fun u x => Fresh l (newS l.length c) B u x) w ((execOp a.eval o).run Tryd.prog w) := by
  obtain ⟨vb, so, rfl, h1, h2, h3, h4⟩ := h8
  have hr : ((execOp a.eval o).run Tryd.prog w) = .ok (.value (ptr w.heap.size 0)) (w.alloc (.cells (rnA so (.slice (some ⟨vb, 0, none⟩) l.length l.length) 0 (newS l.length c)) 61)) := by
    unfold execOp
    simp only [ho, hx]
    go_simp
  rw [hr]
  have hb := below_alloc w (.cells (rnA so (.slice (some ⟨vb, 0, none⟩) l.length l.length) 0 (newS l.length c)) 61)
  refine ⟨hb, ⟨w.heap.size, vb, so, rfl, ⟨heap_alloc_new _ _, own_mono (own_grow6 h1 hb) (Nat.zero_le _), ?_, ?_, h0, hl, hok⟩, hB, h3, fun k hk => (h1.lt k hk).1⟩⟩
  · rw [hb.block _ (lt_of_some h2)]; exact h2
  · simp [newS]
set_option maxHeartbeats 8000000 in
theorem new_c (hpc : 0 ≤ pc) (O : Ops w v l) (himm : ∀ k, 0 ≤ (opAt l k).imm) (hcap : ∀ ao n cap, v = .slice ao n cap → n ≤ cap) (hc : CorOk c) : Calls Tryd.prog 7 #[blV pc words el v, c.val] w (NewR w pc words el l c) := by
  have N0 : NwC w pc words el v l c w.heap.size (w.heap.size + 1) ((w.alloc (.cells (blA pc words el v) 25)).alloc (.cells c.cells 29)) := by
    have hb := below_alloc w (.cells (blA pc words el v) 25)
    have hb2 := below_alloc (w.alloc (.cells (blA pc words el v) 25)) (.cells c.cells 29)
    refine ⟨?_, ?_, (O.grow hb).grow hb2, below_then hb (Nat.le_refl _) hb2⟩
    · rw [hb2.block _ (by simp)]; exact heap_alloc_new _ _
    · have := heap_alloc_new (w.alloc (.cells (blA pc words el v) 25)) (.cells c.cells 29)
      rw [World.size_alloc] at this; exact this
  have hnw : NewR w pc words el l c = NewR w pc words el l c := rfl
  go_enter Tryd.func7, Tryd.ntmps7
  go_upto_region 1 with fail
  generalize (w.alloc (.cells (blA pc words el v) 25)).alloc (.cells c.cells 29) = w2 at *
  generalize w.heap.size + 1 = b2 at *
  have hb1 : Hid (w.heap.size = w.heap.size) := rfl
  generalize hbb : w.heap.size = b1 at N0 ⊢
  clear hbb hb1 hnw
  have k1 := right_c (words := words) (el := el) hpc N0.ops himm hcap
  cases hR : rightB pc words el l with
  | false =>
    rw [hR] at k1
    go_wp2_with (first | ((with_reducible refine wpList_load_if rfl 25 _ rfl _ rfl 25 _ (0, 0) _ N0.r1 Tryd.underlying25 rfl (bl_inf _ _ _ _) ?_); simp only [Act.put, List.setIfInBounds_toArray, List.set_cons_succ, List.set_cons_zero]) | (go_at_call 16; (with_reducible refine k1.mono ?_); clear k1; rintro e w3 ⟨rfl, B⟩; dsimp only))
    go_ret2
    have e4 : newE pc words el l c = 4 := by unfold newE; rw [hR]; rfl
    refine ⟨below_then N0.below (Nat.le_refl _) B, .inl ⟨by rw [e4]; decide, by rw [e4]; rfl⟩⟩
  | true =>
    rw [hR] at k1
    have hH : headB pc words el l = true := by unfold rightB at hR; rw [Bool.and_eq_true] at hR; exact hR.1
    obtain ⟨h0, hl⟩ := headB_len hH
    have k2 := fun x => regsRight_c c x
    by_cases hgo : rightC c = true ∧ c.el = el
    · have e0 : newE pc words el l c = 0 := by unfold newE; rw [hR]; simp [hgo]
      obtain ⟨hg1, hg2⟩ := hgo
      go_upto_region 5 with (first | ((with_reducible refine wpList_load_if rfl 25 _ rfl _ rfl 25 _ (0, 0) _ N0.r1 Tryd.underlying25 rfl (bl_inf _ _ _ _) ?_); simp only [Act.put, List.setIfInBounds_toArray, List.set_cons_succ, List.set_cons_zero]) | (go_at_call 16; (with_reducible refine k1.mono ?_); clear k1; rintro e w3 ⟨rfl, B⟩; dsimp only; have N3 := N0.grow B; clear N0) | ((with_reducible refine wpList_load_if rfl 29 _ rfl _ rfl 29 _ (0, 0) _ N3.r2 Tryd.underlying29 rfl (Cor.info _) ?_); simp only [Act.put, List.setIfInBounds_toArray, List.set_cons_succ, List.set_cons_zero]) | (go_at_call 17; (with_reducible refine (k2 _).mono ?_); rintro e w4 ⟨rfl, B4⟩; rw [hg1]; dsimp only; have N4 := N3.grow B4; have z1 := N4.ce; have z2 := N4.c2; rw [hg2] at z1))
      have hok := newS_ok hc (c := c) (by
        have h := hg1
        unfold rightC at h
        simp only [Bool.and_eq_true, Bool.or_eq_true, beq_iff_eq] at h
        exact h.1.1.1.1) l.length
      refine RelQ.wp_region_rel RelQ.Grows (fun _ _ => False) (fun _ _ _ h _ => h.elim) (NwC w pc words el v l c b1 b2) [.inl (ptr b1 3), .inl (v), .inr (fun u x => x.ownsRow w.heap.size 42 6 u l.length (opF l)), .inl (ptr b1 3), .inl (v), .inl (vI (l.length : Int)), .inr (fun u x => ∃ vb, u = .slice (some ⟨vb, 0, none⟩) l.length l.length ∧ x.heap[vb]? = some (.cells (((List.replicate l.length (0 : Int)).map vU).toArray) 22) ∧ w.heap.size ≤ vb), .inl (c.val), .inr (fun u x => ∃ vb so, u = .agg (rnA so (.slice (some ⟨vb, 0, none⟩) l.length l.length) 0 (newS l.length c)) ∧ x.ownsRow w.heap.size 42 6 so l.length (opF l) ∧ x.heap[vb]? = some (.cells (((List.replicate l.length (0 : Int)).map vU).toArray) 22) ∧ w.heap.size ≤ vb ∧ so.oneCell' = true), .inr (fun u x => Fresh l (newS l.length c) w.heap.size u x), .inr (fun u x => Fresh l (newS l.length c) w.heap.size u x), .inl (vI 0)] (by kernel_rfl) (by kernel_rfl) RelQ.grows_refl (fun _ _ h hb => h.grow hb) (N4.grow (below_dr _)) (by intro k hk; simp only [List.mem_cons, List.not_mem_nil, or_false] at hk; rcases hk with rfl | rfl | rfl | rfl | rfl | rfl | rfl | rfl | rfl | rfl | rfl | rfl <;> first | exact trivial | exact (fun v x y h hb => own_grow6 h hb) | exact (fun v x y h hb => Fresh.grow h hb) | exact (fun v x y h hb => by obtain ⟨vb, e, h1, h2⟩ := h; exact ⟨vb, e, by rw [hb.block _ (lt_of_some h1)]; exact h1, h2⟩) | exact (fun v x y h hb => by obtain ⟨vb, so, e, h0, h1, h2⟩ := h; exact ⟨vb, so, e, own_grow6 h0 hb, by rw [hb.block _ (lt_of_some h1)]; exact h1, h2⟩)) ?_
      refine ⟨fun w3 hC _ => RelQ.uponG_yes rfl ((by go_simp; first | exact RelQ.grows_refl _ | exact ⟨RelQ.grows_refl _, rfl⟩)), ?_⟩
      simp only [Act.put, List.setIfInBounds_toArray, List.set_cons_succ, List.set_cons_zero]
      refine ⟨fun w3 hC _ => RelQ.uponG_yes rfl ((by have z := hC.c3; go_simp; first | exact RelQ.grows_refl _ | exact ⟨RelQ.grows_refl _, rfl⟩)), ?_⟩
      simp only [Act.put, List.setIfInBounds_toArray, List.set_cons_succ, List.set_cons_zero]
      refine ⟨fun w3 hC hf => RelQ.uponG_yes rfl ((by go_simp; refine (clone_c hC.ops h0 hl).mono ?_; rintro e w4 ⟨u, rfl, ho, hb⟩; first | exact ⟨_, rfl, hb, own_mono ho hC.below.size⟩ | exact .inl ⟨_, rfl, hb, own_mono ho hC.below.size⟩)), ?_⟩
      intro u2
      simp only [Act.put, List.setIfInBounds_toArray, List.set_cons_succ, List.set_cons_zero]
      refine ⟨fun w3 hC _ => RelQ.uponG_yes rfl ((by go_simp; first | exact RelQ.grows_refl _ | exact ⟨RelQ.grows_refl _, rfl⟩)), ?_⟩
      simp only [Act.put, List.setIfInBounds_toArray, List.set_cons_succ, List.set_cons_zero]
      refine ⟨fun w3 hC _ => RelQ.uponG_yes rfl ((by have z := hC.c3; go_simp; first | exact RelQ.grows_refl _ | exact ⟨RelQ.grows_refl _, rfl⟩)), ?_⟩
      simp only [Act.put, List.setIfInBounds_toArray, List.set_cons_succ, List.set_cons_zero]
      refine ⟨fun w3 hC hf => RelQ.uponG_yes rfl (by obtain ⟨ao, cap, ev⟩ := hC.ops.len; subst ev; go_simp; first | exact RelQ.grows_refl _ | exact ⟨RelQ.grows_refl _, rfl⟩), ?_⟩
      simp only [Act.put, List.setIfInBounds_toArray, List.set_cons_succ, List.set_cons_zero]
      refine ⟨fun w3 hC hf => RelQ.uponG_yes rfl ((by exact rel_mk hl ⟨_, rfl, heap_alloc_new _ _, hC.below.size⟩)), ?_⟩
      intro u6
      simp only [Act.put, List.setIfInBounds_toArray, List.set_cons_succ, List.set_cons_zero]
      refine ⟨fun w3 hC hf => RelQ.uponG_yes rfl (by exact rel_load29 hC.r2), ?_⟩
      simp only [Act.put, List.setIfInBounds_toArray, List.set_cons_succ, List.set_cons_zero]
      refine ⟨fun w3 hC hf => RelQ.uponG_yes rfl ((by exact rel_new8 ((hf 2 (by kernel_rfl)).2.1 rfl) ((hf 6 (by kernel_rfl)).1 rfl))), ?_⟩
      intro u8
      simp only [Act.put, List.setIfInBounds_toArray, List.set_cons_succ, List.set_cons_zero]
      refine ⟨fun w3 hC hf => RelQ.uponG_yes rfl ((by exact rel_box8 hok hC ((hf 8 (by kernel_rfl)).1 rfl) h0 hl hC.below.size)), ?_⟩
      intro u9
      simp only [Act.put, List.setIfInBounds_toArray, List.set_cons_succ, List.set_cons_zero]
      refine ⟨fun w3 hC hf => RelQ.uponG_yes rfl ((by have q := (hf 9 (by kernel_rfl)).1 rfl; go_simp; first | exact RelQ.grows_refl _ | exact ⟨RelQ.grows_refl _, q⟩)), ?_⟩
      intro u10
      simp only [Act.put, List.setIfInBounds_toArray, List.set_cons_succ, List.set_cons_zero]
      refine ⟨fun w3 hC _ => RelQ.uponG_yes rfl ((by go_simp; first | exact RelQ.grows_refl _ | exact ⟨RelQ.grows_refl _, rfl⟩)), ?_⟩
      simp only [Act.put, List.setIfInBounds_toArray, List.set_cons_succ, List.set_cons_zero]
      intro w9 hN hf
      have F := (hf 10).1 rfl
      clear hf
      go_wp2
      go_ret2
      exact ⟨hN.below, .inr ⟨e0, u10, rfl, F⟩⟩
    · have e1 : newE pc words el l c = 1 := by unfold newE; rw [hR]; simp [hgo]
      cases hg1 : rightC c with
      | false =>
        go_wp2_with (first | ((with_reducible refine wpList_load_if rfl 25 _ rfl _ rfl 25 _ (0, 0) _ N0.r1 Tryd.underlying25 rfl (bl_inf _ _ _ _) ?_); simp only [Act.put, List.setIfInBounds_toArray, List.set_cons_succ, List.set_cons_zero]) | (go_at_call 16; (with_reducible refine k1.mono ?_); clear k1; rintro e w3 ⟨rfl, B⟩; dsimp only; have N3 := N0.grow B; clear N0) | ((with_reducible refine wpList_load_if rfl 29 _ rfl _ rfl 29 _ (0, 0) _ N3.r2 Tryd.underlying29 rfl (Cor.info _) ?_); simp only [Act.put, List.setIfInBounds_toArray, List.set_cons_succ, List.set_cons_zero]) | (go_at_call 17; (with_reducible refine (k2 _).mono ?_); rintro e w4 ⟨rfl, B4⟩; rw [hg1]; dsimp only; have N4 := N3.grow B4; have z1 := N4.ce; have z2 := N4.c2))
        go_ret2
        exact ⟨N4.below, .inl ⟨by rw [e1]; decide, by rw [e1]; rfl⟩⟩
      | true =>
        have hg2 : ¬ c.el = el := fun h => hgo ⟨hg1, h⟩
        have hg3 : (c.el != el) = true := by simp [hg2]
        go_wp2_with (first | ((with_reducible refine wpList_load_if rfl 25 _ rfl _ rfl 25 _ (0, 0) _ N0.r1 Tryd.underlying25 rfl (bl_inf _ _ _ _) ?_); simp only [Act.put, List.setIfInBounds_toArray, List.set_cons_succ, List.set_cons_zero]) | (go_at_call 16; (with_reducible refine k1.mono ?_); clear k1; rintro e w3 ⟨rfl, B⟩; dsimp only; have N3 := N0.grow B; clear N0) | ((with_reducible refine wpList_load_if rfl 29 _ rfl _ rfl 29 _ (0, 0) _ N3.r2 Tryd.underlying29 rfl (Cor.info _) ?_); simp only [Act.put, List.setIfInBounds_toArray, List.set_cons_succ, List.set_cons_zero]) | (go_at_call 17; (with_reducible refine (k2 _).mono ?_); rintro e w4 ⟨rfl, B4⟩; rw [hg1]; dsimp only; have N4 := N3.grow B4; have z1 := N4.ce; have z2 := N4.c2))
        go_ret2
        exact ⟨N4.below, .inl ⟨by rw [e1]; decide, by rw [e1]; rfl⟩⟩
end
end Go.Proofs.YtioeiogcejikbaaDoor
