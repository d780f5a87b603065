/- What together and holds make of a form and an instruction: contracts. -/
import Derived.Test.YtcmilajlngnibaaFrm
import Derived.Test.YtcmilajlngnibaaRel
import Derived.Test.YtcmilajlngnibaaTail
namespace Go.Proofs.Ytcmilajlngnibaa
open Go.RowKit Go.Rel

theorem rel_load_insn {o : Oper} {a : Act} {w : World} {i : Ins} (x : Operand) (ho : o.op = .load 25 x) (g : Nat) (hx : a.eval x = .pointer (some ⟨g, 0, none⟩)) (hg : w.heap[g]? = some (.cells i.cells 25)) :
    relUpon Try.prog Grows (fun v _ => v = i.val) w ((execOp a.eval o).run Try.prog w) := by
  unfold execOp
  simp only [ho, hx, Instr.loadAt, Instr.sureAddr, Sem.run_bind, Sem.run_pure, Result.andThen_ok, run_loadVar_row w g 25 25 i.cells (0, 0) _ hg Try.underlying25 rfl info25]
  exact ⟨Below.refl _ _, rfl⟩
/-- The form, and the instruction's box. -/
structure Tg (F : Fm) (g o : Nat) (i : Ins) (w0 w : World) : Prop where
  below : Below w0.heap.size w0 w
  box : w.heap[w0.heap.size]? = some (.cells i.cells 25)
  fm : FmAt F g o w
theorem Tg.grow {F : Fm} {g o : Nat} {i : Ins} {w0 w w' : World} (h : Tg F g o i w0 w) (hb : Below w.heap.size w w') : Tg F g o i w0 w' :=
  ⟨h.below.trans (hb.mono h.below.size), by rw [hb.block _ (Array.getElem?_eq_some_iff.1 h.box).1]; exact h.box, h.fm.keep (hb.block g (block_lt_of_cell h.fm.c0))⟩
theorem tg_start {F : Fm} {g o : Nat} (i : Ins) {w : World} (h : FmAt F g o w) : Tg F g o i w (w.alloc (.cells i.cells 25)) :=
  ⟨Go.Proofs.Ytcmilajlngnibaa.below_alloc _ _, heap_alloc_new _ _, h.keep (Below.heap_alloc _ _ _ (block_lt_of_cell h.c0))⟩
theorem tg_up (F : Fm) (g o : Nat) (i : Ins) (w0 : World) : Up Grows (fun w => Tg F g o i w0 w) := fun _ _ h hb => h.grow hb
/-- A new variable of the pair's type. -/
def Fresh (n : Nat) (v : Value) (w : World) : Prop := ∃ b Z, v = .pointer (some ⟨b, 0, none⟩) ∧ n < b ∧ w.heap[b]? = some (.cells Z 52) ∧ Z.size = 18
theorem fresh_up (n : Nat) (v : Value) : Up Grows (Fresh n v) := fun _ _ ⟨b, Z, e, hn, hh, hz⟩ hb => ⟨b, Z, e, hn, by rw [hb.block _ (Array.getElem?_eq_some_iff.1 hh).1]; exact hh, hz⟩
theorem info52 : (Try.prog.info? 52).map (·.size) = some 18 := by kernel_rfl
theorem pair_info (s : St) (lay : Bool) : (Try.prog.info? 52).map (·.size) = some (pairS s lay).size := info52
theorem pair_one (s : St) (lay : Bool) : (pairS s lay).all (·.oneCell') = true := by simp [pairS, Value.oneCell']
set_option maxRecDepth 4000 in
set_option maxHeartbeats 4000000 in
theorem together_c (F : Fm) (hF : FC F.f F.t) (hE : ∀ (args : Array Value) (w : World), (callFunc F.f args).run Try.prog w = .ok (.enter F.f args) w) (g o : Nat) (i : Ins) (O : Ok (F.base, i)) (w : World) (h : FmAt F g o w) :
    Calls Try.prog 19 #[.pointer (some ⟨g, o, none⟩), i.val] w fun e w' => e = .returned (.int .u32 (F.t true (F.base, i)).1) ∧ Below w.heap.size w w' := by
  have H := tg_start i h
  go_enter Try.func19, Try.ntmps19
  go_upto_region 1 with fail
  refine wp_region_tail 7 Grows (fun x => Tg F g o i w x) [.inl (.pointer (some ⟨g, o, none⟩)), .inl (.pointer (some ⟨g, o, none⟩)), .inl (.pointer (some ⟨g, o + 3, none⟩)), .inl (.int .u32 F.base), .inl i.val, .inl (.agg (pairS (F.base, i) true)), .inr (Fresh w.heap.size)] (by kernel_rfl) (by kernel_rfl) (tg_up F g o i w) (H.grow ⟨rfl, rfl, rfl, Nat.le_refl _, fun _ _ => rfl⟩) (by simp only [List.mem_cons, List.not_mem_nil, or_false]; rintro k hk; rcases hk with rfl | rfl | rfl | rfl | rfl | rfl | rfl <;> first | trivial | exact fun v => fresh_up _ v) ?_
  refine ⟨fun w1 hC _ => by go_simp; exact Below.refl _ _, ?_⟩
  simp only [Act.put, List.setIfInBounds_toArray, List.set_cons_succ, List.set_cons_zero]
  refine ⟨fun w1 hC _ => by go_simp; exact Below.refl _ _, ?_⟩
  simp only [Act.put, List.setIfInBounds_toArray, List.set_cons_succ, List.set_cons_zero]
  refine ⟨fun w1 hC _ => by go_simp; exact Below.refl _ _, ?_⟩
  simp only [Act.put, List.setIfInBounds_toArray, List.set_cons_succ, List.set_cons_zero]
  refine ⟨fun w1 hC _ => by have hq := hC.fm.c3; go_simp; exact Below.refl _ _, ?_⟩
  simp only [Act.put, List.setIfInBounds_toArray, List.set_cons_succ, List.set_cons_zero]
  refine ⟨fun w1 hC _ => rel_load_insn _ rfl w.heap.size rfl hC.box, ?_⟩
  simp only [Act.put, List.setIfInBounds_toArray, List.set_cons_succ, List.set_cons_zero]
  refine ⟨fun w1 hC _ => by go_simp; first | exact Below.refl _ _ | exact ⟨Below.refl _ _, rfl⟩, ?_⟩
  simp only [Act.put, List.setIfInBounds_toArray, List.set_cons_succ, List.set_cons_zero]
  refine ⟨fun w1 hC _ => ?_, fun vp => ?_⟩
  · go_simp
    exact ⟨Go.Proofs.Ytcmilajlngnibaa.below_alloc _ _, _, _, rfl, (Array.getElem?_eq_some_iff.1 hC.box).1, heap_alloc_new _ _, rfl⟩
  simp only [Act.put, List.setIfInBounds_toArray, List.set_cons_succ, List.set_cons_zero]
  clear H
  intro w1 H hf
  obtain ⟨b, Z, rfl, hb, hrow, hZ⟩ := (hf 6).1 rfl
  clear hf
  simp only [List.drop_succ_cons, List.drop_zero]
  with_reducible refine wpList_store_row rfl 52 _ _ rfl b _ rfl rfl 52 Z hrow (pair_info _ _) ?_ (pair_one _ _) ?_
  focus (rw [hZ]; rfl)
  have hrow2 := setRow_heap w1 b Z (pairS (F.base, i) true) 52 (0, 0) hrow
  have hfm : FmAt F g o (w1.setRow b (pairS (F.base, i) true)) := H.fm.keep (setRow_other _ _ _ _ (by have := block_lt_of_cell h.c0; simp only at this; omega))
  have HB : Below w.heap.size w (w1.setRow b (pairS (F.base, i) true)) := Go.Proofs.Ytcmilajlngnibaa.below_setRow H.below (by omega)
  generalize w1.setRow b (pairS (F.base, i) true) = w2 at hrow2 hfm HB ⊢
  clear hrow H
  have c4 := hfm.c4
  go_upto_region 3 with (first | (refine (hF b (F.base, i) true _ O hrow2).mono ?_; rintro e w3 ⟨rfl, H1⟩; dsimp only))
  have c0 := H1.at (pair_0 _ _)
  go_wp2
  go_ret
  exact ⟨rfl, ⟨H1.keep.os.trans HB.os, H1.keep.tape.trans HB.tape, H1.keep.output.trans HB.output, Nat.le_trans HB.size H1.keep.size, fun k hk => (H1.keep.block k (by omega) (Nat.lt_of_lt_of_le hk HB.size)).trans (HB.block k hk)⟩⟩
end Go.Proofs.Ytcmilajlngnibaa
