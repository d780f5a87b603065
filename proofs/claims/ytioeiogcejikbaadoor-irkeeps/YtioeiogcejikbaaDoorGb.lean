/- Two runs of a block, where none is made. -/
import Derived.Test.YtioeiogcejikbaaDoorGa
namespace Go.Proofs.YtioeiogcejikbaaDoor
open Go.RowKit
set_option linter.unusedVariables false
set_option linter.unusedSimpArgs false
set_option maxRecDepth 8000

theorem rel_load25 {E : List PanicEntry → World → Prop} {w : World} {pc words el : Int} {u : Value} {o : Oper} {a : Act} {x : Operand} {b : Nat} (hr : w.heap[b]? = some (.cells (blA pc words el u) 25)) (ho : o.op = .load 25 x := by rfl) (hx : a.eval x = ptr b 0 := by rfl) : RelQ.relUpon Tryd.prog RelQ.Grows E (fun v _ => v = blV pc words el u) w ((execOp a.eval o).run Tryd.prog w) := by
  have h := run_loadVar_row w b 25 25 (blA pc words el u) (0, 0) _ hr Tryd.underlying25 rfl (bl_inf _ _ _ _)
  unfold execOp
  simp only [ho, hx, Instr.loadAt, Instr.sureAddr, Sem.run_bind, Sem.run_pure, Result.andThen_ok, h]
  exact ⟨RelQ.grows_refl _, rfl⟩
section
variable {w : World} {pc words el : Int} {v : Value} {l : List Opr} {c : Cor}
theorem newY_c (hpc : 0 ≤ pc) (O : Ops w v l) (himm : ∀ k, 0 ≤ (opAt l k).imm) (hcap : ∀ ao n cap, v = .slice ao n cap → n ≤ cap) (hc : CorOk c) (hE : newE pc words el l c = 0) : Calls Tryd.prog 7 #[blV pc words el v, c.val] w fun e w' => ∃ p, e = .returned (.tuple #[p, vI 0]) ∧ Fresh l (newS l.length c) w.heap.size p w' ∧ Below w.heap.size w w' := by
  refine (new_c hpc O himm hcap hc).mono ?_
  rintro e w' ⟨hb, ⟨h, _⟩ | ⟨_, u, rfl, F⟩⟩
  · exact absurd hE h
  · exact ⟨u, rfl, F, hb⟩
theorem newN_c {E : Int} (hpc : 0 ≤ pc) (O : Ops w v l) (himm : ∀ k, 0 ≤ (opAt l k).imm) (hcap : ∀ ao n cap, v = .slice ao n cap → n ≤ cap) (hc : CorOk c) (hE : newE pc words el l c = E) (h0 : E ≠ 0) : Calls Tryd.prog 7 #[blV pc words el v, c.val] w fun e w' => e = .returned (.tuple #[.pointer none, vI E]) ∧ Below w.heap.size w w' := by
  refine (new_c hpc O himm hcap hc).mono ?_
  rintro e w' ⟨hb, ⟨h, he⟩ | ⟨h, _⟩⟩
  · rw [hE] at he; exact ⟨he, hb⟩
  · exact absurd (hE.symm.trans h) h0
theorem newE_or : newE pc words el l c = 0 ∨ newE pc words el l c = 1 ∨ newE pc words el l c = 4 := by
  unfold newE
  split
  · split <;> simp
  · simp
theorem new_fit (himm : ∀ k, U64 (opAt l k).imm) (hE : newE pc words el l c = 0) : ∀ k, k < l.length → OpFit l (opAt l k) := by
  have hR : rightB pc words el l = true := by
    cases h : rightB pc words el l with
    | true => rfl
    | false => unfold newE at hE; rw [h] at hE; simp at hE
  unfold rightB at hR
  rw [Bool.and_eq_true] at hR
  exact fit_of hR.2 himm
/-- While the second run is made. -/
structure TwI (w : World) (pc words el : Int) (v : Value) (l : List Opr) (c : Cor) (b1 b2 n1 g1 vb1 : Nat) (so1 : Value) (x : World) : Prop where
  n : NwC w pc words el v l c b1 b2 x
  r1 : RunAt l g1 vb1 so1 (newS l.length c) x
  size : n1 ≤ x.heap.size
theorem TwI.grow {b1 b2 n1 g1 vb1 : Nat} {so1 : Value} {x y : World} (h : TwI w pc words el v l c b1 b2 n1 g1 vb1 so1 x) (hb : Below x.heap.size x y) : TwI w pc words el v l c b1 b2 n1 g1 vb1 so1 y := ⟨h.n.grow hb, h.r1.grow hb, Nat.le_trans h.size hb.size⟩

set_option maxHeartbeats 4000000 in
theorem twice_no1 (vz : Value) (hpc : 0 ≤ pc) (O : OpsIn w v l) (hl : l.length * 48 ≤ 140737488351232) (hc : CorOk c) (hE : newE pc words el l c = 1) : Calls Tryd.prog 5 #[blV pc words el v, c.val, vz] w fun e w' => e = .returned (.bool true) ∧ Below w.heap.size w w' := by
  have himm : ∀ k, 0 ≤ (opAt l k).imm := fun k => (O.imm k).1
  have N0 : NwC w pc words el v l c w.heap.size (w.heap.size + 1) ((w.alloc (.cells (blA pc words el v) 25)).alloc (.cells c.cells 29)) := by
    have hb := below_alloc w (.cells (blA pc words el v) 25)
    have hb2 := below_alloc (w.alloc (.cells (blA pc words el v) 25)) (.cells c.cells 29)
    refine ⟨?_, ?_, (O.ops.grow hb).grow hb2, below_then hb (Nat.le_refl _) hb2⟩
    · rw [hb2.block _ (by simp)]; exact heap_alloc_new _ _
    · have := heap_alloc_new (w.alloc (.cells (blA pc words el v) 25)) (.cells c.cells 29)
      rw [World.size_alloc] at this; exact this
  go_enter Tryd.func5, Tryd.ntmps5
  go_upto_region 1 with fail
  generalize (w.alloc (.cells (blA pc words el v) 25)).alloc (.cells c.cells 29) = w2 at *
  generalize w.heap.size + 1 = b2 at *
  generalize hbb : w.heap.size = b1 at N0 ⊢
  clear hbb
  go_upto_region 2 with (first | (go_at_call 6; (with_reducible refine (examples_c _).mono ?_); rintro e w3 ⟨rfl, B⟩; dsimp only; have N := N0.grow B; clear N0 B))

  have k2 := newN_c (words := words) (el := el) hpc N.ops himm O.cap hc hE (by decide)
  go_upto_region 3 with (first | ((with_reducible refine wpList_load_if rfl 25 _ rfl _ rfl 25 _ (0, 0) _ N.r1 Tryd.underlying25 rfl (bl_inf _ _ _ _) ?_); simp only [Act.put, List.setIfInBounds_toArray, List.set_cons_succ, List.set_cons_zero]) | ((with_reducible refine wpList_load_if rfl 29 _ rfl _ rfl 29 _ (0, 0) _ N.r2 Tryd.underlying29 rfl (Cor.info _) ?_); simp only [Act.put, List.setIfInBounds_toArray, List.set_cons_succ, List.set_cons_zero]) | (go_at_call 7; (with_reducible refine k2.mono ?_); clear k2; rintro e w4 ⟨rfl, B⟩; dsimp only; replace N := N.grow B; clear B))
  refine RelQ.wp_region_rel RelQ.Grows (fun _ _ => False) (fun _ _ _ h _ => h.elim) (NwC w pc words el v l c b1 b2) [.inl (blV pc words el v), .inr (fun u x => ∃ v2, u = blV pc words el v2 ∧ OpsC x v2 l), .inl (c.val), .inl (.tuple #[.pointer none, vI 1]), .inl (.tuple #[.pointer none, vI 1]), .inl (.pointer none), .inl (vI 1), .inl (.pointer none), .inl (vI 1)] (by kernel_rfl) (by kernel_rfl) RelQ.grows_refl (fun _ _ h hb => h.grow hb) (N.grow (below_dr _)) (by intro k hk; simp only [List.mem_cons, List.not_mem_nil, or_false] at hk; rcases hk with rfl | rfl | rfl | rfl | rfl | rfl | rfl | rfl | rfl <;> first | exact trivial | exact (fun v x y h hb => Fresh.grow h hb) | exact (fun v x y h hb => by obtain ⟨v2, e0, h1⟩ := h; exact ⟨v2, e0, h1.grow hb⟩) | exact (fun v x y h hb => by obtain ⟨p, e0, F⟩ := h; exact ⟨p, e0, F.grow hb⟩)) ?_
  refine ⟨fun w3 hC hf => RelQ.uponG_yes rfl (by exact rel_load25 hC.r1), ?_⟩
  simp only [Act.put, List.setIfInBounds_toArray, List.set_cons_succ, List.set_cons_zero]
  refine ⟨fun w3 hC hf => RelQ.uponG_yes rfl ((by go_simp; refine (copied_c hC.ops hl).mono ?_; rintro e w4 ⟨v2, rfl, hO, hb⟩; first | exact ⟨_, rfl, hb, v2, rfl, hO⟩ | exact .inl ⟨_, rfl, hb, v2, rfl, hO⟩)), ?_⟩
  intro u1
  simp only [Act.put, List.setIfInBounds_toArray, List.set_cons_succ, List.set_cons_zero]
  refine ⟨fun w3 hC hf => RelQ.uponG_yes rfl (by exact rel_load29 hC.r2), ?_⟩
  simp only [Act.put, List.setIfInBounds_toArray, List.set_cons_succ, List.set_cons_zero]
  refine ⟨fun w3 hC hf => RelQ.uponG_yes rfl (by obtain ⟨v2, e0, O2⟩ := (hf 1 (by kernel_rfl)).1 rfl; subst e0; go_simp; refine (newN_c hpc O2.ops himm O2.cap hc hE (by decide)).mono ?_; rintro e w4 ⟨rfl, hb⟩; first | exact ⟨rfl, hb⟩ | exact ⟨_, rfl, hb, rfl⟩), ?_⟩
  simp only [Act.put, List.setIfInBounds_toArray, List.set_cons_succ, List.set_cons_zero]
  refine ⟨fun w3 hC _ => RelQ.uponG_yes rfl ((by go_simp; first | exact RelQ.grows_refl _ | exact ⟨RelQ.grows_refl _, rfl⟩)), ?_⟩
  simp only [Act.put, List.setIfInBounds_toArray, List.set_cons_succ, List.set_cons_zero]
  refine ⟨fun w3 hC _ => RelQ.uponG_yes rfl ((by go_simp; first | exact RelQ.grows_refl _ | exact ⟨RelQ.grows_refl _, rfl⟩)), ?_⟩
  simp only [Act.put, List.setIfInBounds_toArray, List.set_cons_succ, List.set_cons_zero]
  refine ⟨fun w3 hC _ => RelQ.uponG_yes rfl ((by go_simp; first | exact RelQ.grows_refl _ | exact ⟨RelQ.grows_refl _, rfl⟩)), ?_⟩
  simp only [Act.put, List.setIfInBounds_toArray, List.set_cons_succ, List.set_cons_zero]
  refine ⟨fun w3 hC _ => RelQ.uponG_yes rfl ((by go_simp; first | exact RelQ.grows_refl _ | exact ⟨RelQ.grows_refl _, rfl⟩)), ?_⟩
  simp only [Act.put, List.setIfInBounds_toArray, List.set_cons_succ, List.set_cons_zero]
  refine ⟨fun w3 hC _ => RelQ.uponG_yes rfl ((by go_simp; first | exact RelQ.grows_refl _ | exact ⟨RelQ.grows_refl _, rfl⟩)), ?_⟩
  simp only [Act.put, List.setIfInBounds_toArray, List.set_cons_succ, List.set_cons_zero]
  intro w9 hN hf
  clear hf
  go_wp2
  go_ret
  exact ⟨rfl, hN.below⟩

set_option maxHeartbeats 4000000 in
theorem twice_no4 (vz : Value) (hpc : 0 ≤ pc) (O : OpsIn w v l) (hl : l.length * 48 ≤ 140737488351232) (hc : CorOk c) (hE : newE pc words el l c = 4) : Calls Tryd.prog 5 #[blV pc words el v, c.val, vz] w fun e w' => e = .returned (.bool true) ∧ Below w.heap.size w w' := by
  have himm : ∀ k, 0 ≤ (opAt l k).imm := fun k => (O.imm k).1
  have N0 : NwC w pc words el v l c w.heap.size (w.heap.size + 1) ((w.alloc (.cells (blA pc words el v) 25)).alloc (.cells c.cells 29)) := by
    have hb := below_alloc w (.cells (blA pc words el v) 25)
    have hb2 := below_alloc (w.alloc (.cells (blA pc words el v) 25)) (.cells c.cells 29)
    refine ⟨?_, ?_, (O.ops.grow hb).grow hb2, below_then hb (Nat.le_refl _) hb2⟩
    · rw [hb2.block _ (by simp)]; exact heap_alloc_new _ _
    · have := heap_alloc_new (w.alloc (.cells (blA pc words el v) 25)) (.cells c.cells 29)
      rw [World.size_alloc] at this; exact this
  go_enter Tryd.func5, Tryd.ntmps5
  go_upto_region 1 with fail
  generalize (w.alloc (.cells (blA pc words el v) 25)).alloc (.cells c.cells 29) = w2 at *
  generalize w.heap.size + 1 = b2 at *
  generalize hbb : w.heap.size = b1 at N0 ⊢
  clear hbb
  go_upto_region 2 with (first | (go_at_call 6; (with_reducible refine (examples_c _).mono ?_); rintro e w3 ⟨rfl, B⟩; dsimp only; have N := N0.grow B; clear N0 B))

  have k2 := newN_c (words := words) (el := el) hpc N.ops himm O.cap hc hE (by decide)
  go_upto_region 3 with (first | ((with_reducible refine wpList_load_if rfl 25 _ rfl _ rfl 25 _ (0, 0) _ N.r1 Tryd.underlying25 rfl (bl_inf _ _ _ _) ?_); simp only [Act.put, List.setIfInBounds_toArray, List.set_cons_succ, List.set_cons_zero]) | ((with_reducible refine wpList_load_if rfl 29 _ rfl _ rfl 29 _ (0, 0) _ N.r2 Tryd.underlying29 rfl (Cor.info _) ?_); simp only [Act.put, List.setIfInBounds_toArray, List.set_cons_succ, List.set_cons_zero]) | (go_at_call 7; (with_reducible refine k2.mono ?_); clear k2; rintro e w4 ⟨rfl, B⟩; dsimp only; replace N := N.grow B; clear B))
  refine RelQ.wp_region_rel RelQ.Grows (fun _ _ => False) (fun _ _ _ h _ => h.elim) (NwC w pc words el v l c b1 b2) [.inl (blV pc words el v), .inr (fun u x => ∃ v2, u = blV pc words el v2 ∧ OpsC x v2 l), .inl (c.val), .inl (.tuple #[.pointer none, vI 4]), .inl (.tuple #[.pointer none, vI 4]), .inl (.pointer none), .inl (vI 4), .inl (.pointer none), .inl (vI 4)] (by kernel_rfl) (by kernel_rfl) RelQ.grows_refl (fun _ _ h hb => h.grow hb) (N.grow (below_dr _)) (by intro k hk; simp only [List.mem_cons, List.not_mem_nil, or_false] at hk; rcases hk with rfl | rfl | rfl | rfl | rfl | rfl | rfl | rfl | rfl <;> first | exact trivial | exact (fun v x y h hb => Fresh.grow h hb) | exact (fun v x y h hb => by obtain ⟨v2, e0, h1⟩ := h; exact ⟨v2, e0, h1.grow hb⟩) | exact (fun v x y h hb => by obtain ⟨p, e0, F⟩ := h; exact ⟨p, e0, F.grow hb⟩)) ?_
  refine ⟨fun w3 hC hf => RelQ.uponG_yes rfl (by exact rel_load25 hC.r1), ?_⟩
  simp only [Act.put, List.setIfInBounds_toArray, List.set_cons_succ, List.set_cons_zero]
  refine ⟨fun w3 hC hf => RelQ.uponG_yes rfl ((by go_simp; refine (copied_c hC.ops hl).mono ?_; rintro e w4 ⟨v2, rfl, hO, hb⟩; first | exact ⟨_, rfl, hb, v2, rfl, hO⟩ | exact .inl ⟨_, rfl, hb, v2, rfl, hO⟩)), ?_⟩
  intro u1
  simp only [Act.put, List.setIfInBounds_toArray, List.set_cons_succ, List.set_cons_zero]
  refine ⟨fun w3 hC hf => RelQ.uponG_yes rfl (by exact rel_load29 hC.r2), ?_⟩
  simp only [Act.put, List.setIfInBounds_toArray, List.set_cons_succ, List.set_cons_zero]
  refine ⟨fun w3 hC hf => RelQ.uponG_yes rfl (by obtain ⟨v2, e0, O2⟩ := (hf 1 (by kernel_rfl)).1 rfl; subst e0; go_simp; refine (newN_c hpc O2.ops himm O2.cap hc hE (by decide)).mono ?_; rintro e w4 ⟨rfl, hb⟩; first | exact ⟨rfl, hb⟩ | exact ⟨_, rfl, hb, rfl⟩), ?_⟩
  simp only [Act.put, List.setIfInBounds_toArray, List.set_cons_succ, List.set_cons_zero]
  refine ⟨fun w3 hC _ => RelQ.uponG_yes rfl ((by go_simp; first | exact RelQ.grows_refl _ | exact ⟨RelQ.grows_refl _, rfl⟩)), ?_⟩
  simp only [Act.put, List.setIfInBounds_toArray, List.set_cons_succ, List.set_cons_zero]
  refine ⟨fun w3 hC _ => RelQ.uponG_yes rfl ((by go_simp; first | exact RelQ.grows_refl _ | exact ⟨RelQ.grows_refl _, rfl⟩)), ?_⟩
  simp only [Act.put, List.setIfInBounds_toArray, List.set_cons_succ, List.set_cons_zero]
  refine ⟨fun w3 hC _ => RelQ.uponG_yes rfl ((by go_simp; first | exact RelQ.grows_refl _ | exact ⟨RelQ.grows_refl _, rfl⟩)), ?_⟩
  simp only [Act.put, List.setIfInBounds_toArray, List.set_cons_succ, List.set_cons_zero]
  refine ⟨fun w3 hC _ => RelQ.uponG_yes rfl ((by go_simp; first | exact RelQ.grows_refl _ | exact ⟨RelQ.grows_refl _, rfl⟩)), ?_⟩
  simp only [Act.put, List.setIfInBounds_toArray, List.set_cons_succ, List.set_cons_zero]
  refine ⟨fun w3 hC _ => RelQ.uponG_yes rfl ((by go_simp; first | exact RelQ.grows_refl _ | exact ⟨RelQ.grows_refl _, rfl⟩)), ?_⟩
  simp only [Act.put, List.setIfInBounds_toArray, List.set_cons_succ, List.set_cons_zero]
  intro w9 hN hf
  clear hf
  go_wp2
  go_ret
  exact ⟨rfl, hN.below⟩
end
end Go.Proofs.YtioeiogcejikbaaDoor
