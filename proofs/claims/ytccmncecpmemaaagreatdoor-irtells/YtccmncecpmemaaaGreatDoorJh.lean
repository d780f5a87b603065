/- Next. -/
import Derived.Test.YtccmncecpmemaaaGreatDoorJg
import Derived.Test.YtccmncecpmemaaaGreatDoorRelQ
namespace Go.Proofs.YtccmncecpmemaaaGreatDoor
open Go.RowKit
set_option linter.unusedVariables false
set_option linter.unusedSimpArgs false
set_option maxRecDepth 8000

section
variable {l : List Opr} {g vb : Nat} {so : Value} {S : Rn} {w w' : World}
theorem wn_zero : (wnA nilW) = #[vI 0, vU 0, vU 0, vI 0, .bool false, vI 0, .bool false, vI 0, vI 0, vI 0] := rfl
theorem upon_alloc42 {C : World → Prop} {n0 : Nat} {o : Oper} {a : Act} (hn : w.heap.size = n0) (hC : C (w.alloc (.cells (opA nilO) 27))) (ho : o.op = .alloc 27 := by rfl) : Chn.upon Tryz.prog (fun v w' => v = ptr n0 0 ∧ C w') w ((execOp a.eval o).run Tryz.prog w) := by
  subst hn
  have h : ((execOp a.eval o).run Tryz.prog w) = .ok (.value (ptr w.heap.size 0)) (w.alloc (.cells (opA nilO) 27)) := by
    unfold execOp
    simp only [ho]
    go_simp
    rfl
  rw [h]
  exact ⟨rfl, hC⟩
theorem run_st42 {t : Nat} {Z : Array Value} (o : Opr) (hz : Z.size = 6) (hr : w.heap[t]? = some (.cells Z 27)) : (storeVar 27 ⟨t, 0, none⟩ (opV o)).run Tryz.prog w = .ok () (w.setRow t (opA o)) := by
  have := run_storeCells_at (P := Tryz.prog) t 0 27 (opA o).toList 0 _ w hr (by rw [hz]; show 0 + 0 + 6 ≤ 6; decide) (fun v hv => by
    have := Array.all_eq_true_iff_forall_mem.1 (op_one o) v (by simpa using hv); exact this)
  have e6 : (opA o).toList.length = 6 := rfl
  rw [e6] at this
  simp only [Nat.add_zero, Nat.zero_add, List.take_zero, List.nil_append] at this
  rw [List.drop_of_length_le (by rw [Array.length_toList, hz]; exact Nat.le_refl _), List.append_nil] at this
  have hi := op_inf o
  cases hq : Tryz.prog.info? 27 with
  | none => simp [hq] at hi
  | some inf =>
    have hs : inf.size = 6 := by simpa [hq] using hi
    simp [storeVar, sizeOf, typeInfo, hq, Value.cells, hs, this]
theorem upon_load38 {C : World → Prop} (H : RunAt l g vb so S w) {o : Oper} {a : Act} {x : Operand} (hC : C w) (ho : o.op = .load 56 x := by rfl) (hx : a.eval x = ptr g 52 := by rfl) : Chn.upon Tryz.prog (fun v w' => v = wnV S.w ∧ C w') w ((execOp a.eval o).run Tryz.prog w) := by
  have hr : w.rangeAt g 52 (wnA S.w).toList := fun j v hv => by
    rw [cell_of_row _ _ _ _ _ _ H.top]
    have hj : j < 10 := (List.getElem?_eq_some_iff.1 hv).1
    rw [rn_w _ _ _ _ j hj]
    rw [← Array.getElem?_toList]; exact hv
  have h := run_loadVar_mid w g 52 56 (wnA S.w).toList _ hr Tryz.underlying56 rfl (by rw [Array.length_toList]; exact wn_inf _)
  rw [Array.toArray_toList] at h
  unfold execOp
  simp only [ho, hx, Instr.loadAt, Instr.sureAddr, Sem.run_bind, Sem.run_pure, Result.andThen_ok, h]
  exact ⟨rfl, hC⟩
theorem upon_nilN {C : World → Prop} {f : Nat} {o : Oper} {a : Act} {x y : Operand} (hC : C w) (ho : o.op = .binOp .neq 93 x y 93 := by rfl) (hx : a.eval x = goV g f := by rfl) (hy : a.eval y = .nilFunc := by rfl) : Chn.upon Tryz.prog (fun v w' => v = .bool (f != 0) ∧ C w') w ((execOp a.eval o).run Tryz.prog w) := by
  have hgd := guard59 .neq g f x y w
  unfold execOp
  simp only [ho, hx, hy, Sem.run_bind, hgd, run_nilN, Result.andThen_ok, Sem.run_pure]
  exact ⟨rfl, hC⟩
theorem run_st38 {t : Nat} {Z : Array Value} (d : Wnt) (hz : Z.size = 10) (hr : w.heap[t]? = some (.cells Z 56)) : (storeVar 56 ⟨t, 0, none⟩ (wnV d)).run Tryz.prog w = .ok () (w.setRow t (wnA d)) := by
  have := run_storeCells_at (P := Tryz.prog) t 0 56 (wnA d).toList 0 _ w hr (by rw [hz]; show 0 + 0 + 10 ≤ 10; decide) (fun v hv => by
    have := Array.all_eq_true_iff_forall_mem.1 (wn_one d) v (by simpa using hv); exact this)
  have e6 : (wnA d).toList.length = 10 := rfl
  rw [e6] at this
  simp only [Nat.add_zero, Nat.zero_add, List.take_zero, List.nil_append] at this
  rw [List.drop_of_length_le (by rw [Array.length_toList, hz]; exact Nat.le_refl _), List.append_nil] at this
  have hi := wn_inf d
  cases hq : Tryz.prog.info? 56 with
  | none => simp [hq] at hi
  | some inf =>
    have hs : inf.size = 10 := by simpa [hq] using hi
    simp [storeVar, sizeOf, typeInfo, hq, Value.cells, hs, this]
theorem back_next {tmps : Array Value} {rb : Nat} {d : Wnt} (hp : tmps.getD 2 undef = ptr rb 0) (hg : w.heap[rb]? = some (.cells (wnA d) 56)) : (results Tryz.f21 tmps).run Tryz.prog w = .ok (.tuple #[wnV d, tmps.getD 3 undef]) w := by
  rw [results_cell_tmp Tryz.results21]
  simp [hp, asAddr, run_loadVar_row w rb 56 56 (wnA d) (0, 0) _ hg Tryz.underlying56 rfl (wn_inf d)]
theorem nx_done {rb : Nat} {x : World} (h : NxC l g vb so S rb w x) : RT l g vb so S w (x.setRow rb (wnA S.w)) ∧ (x.setRow rb (wnA S.w)).heap[rb]? = some (.cells (wnA S.w) 56) := by
  have n1 := ne_of_type h.res h.run.1.top (by decide)
  have n2 := ne_of_type h.res h.run.1.vals (by decide)
  refine ⟨⟨h.run.1.keep (setRow_other _ _ _ _ (Ne.symm n1)) (setRow_other _ _ _ _ (Ne.symm n2)) (fun k hk => setRow_other _ _ _ _ (fun e => own_ne h.res h.run.1.own (by decide) (e ▸ hk))), ?_⟩, setRow_heap _ _ _ _ _ _ h.res⟩
  exact h.run.2.trans (goes_setRow x (F := fun k => k = rb) rfl _) (fun k hk e => absurd h.new (by omega))
/-- While an operation is read. -/
structure RdC (l : List Opr) (g vb : Nat) (so : Value) (S : Rn) (rb : Nat) (w : World) (n0 : Nat) (o : Opr) (j : Nat) (x : World) : Prop where
  nx : NxC l g vb so S rb w x
  c0 : j = 0 → x.heap.size = n0
  c1 : j = 1 → ∃ Z : Array Value, Z.size = 6 ∧ x.heap[n0]? = some (.cells Z 27)
  c2 : 2 ≤ j → LocO n0 o x
theorem rd_done {ob cap rb n0 : Nat} {O : Opr} {x : World} {Z : Array Value} (h : RdC l g vb (.slice (some ⟨ob, 0, none⟩) l.length cap) S rb w n0 O 1 x) (hr : x.heap[n0]? = some (.cells Z 27)) (h1 : ob < n0) (h2 : w.heap.size ≤ n0) : RdC l g vb (.slice (some ⟨ob, 0, none⟩) l.length cap) S rb w n0 O 2 (x.setRow n0 (opA O)) := by
  have n1 := ne_of_type hr h.nx.run.1.top (by decide)
  have n2 := ne_of_type hr h.nx.run.1.vals (by decide)
  have n3 := ne_of_type hr h.nx.res (by decide)
  refine ⟨⟨⟨h.nx.run.1.keep (setRow_other _ _ _ _ (Ne.symm n1)) (setRow_other _ _ _ _ (Ne.symm n2)) (fun k hk => setRow_other _ _ _ _ (fun e => ?_)), ?_⟩, ?_, h.nx.new⟩, fun e => absurd e (by decide), fun e => absurd e (by decide), fun _ => setRow_heap _ _ _ _ _ _ hr⟩
  · have : ob = k := by simpa [Value.ownBlock] using hk
    omega
  · exact h.nx.run.2.trans (goes_setRow x (F := fun k => k = n0) rfl _) (fun k hk e => by omega)
  · rw [setRow_other _ _ _ _ (Ne.symm n3)]; exact h.nx.res
set_option maxHeartbeats 4000000 in
theorem next_c (H : RunAt l g vb so S w) (fit : ∀ k, k < l.length → OpFit l (opAt l k)) (hnx : S.next ≤ l.length) : Calls Tryz.prog 21 #[ptr g 0] w fun e w' => e = .returned (.tuple #[wnV (nextV l S).w, .bool ((nextV l S).go != 0)]) ∧ RT l g vb so (nextV l S) w w' := by
  have hb := below_alloc w (.cells (wnA nilW) 56)
  obtain ⟨ob, cap, eo, _, _⟩ := H.opsI
  subst eo
  have hmax := H.max
  have N0 : NxC l g vb (.slice (some ⟨ob, 0, none⟩) l.length cap) S w.heap.size w (w.alloc (.cells (wnA nilW) 56)) := ⟨RT.from hb (H.grow hb).here, heap_alloc_new _ _, Nat.le_refl _⟩
  go_enter Tryz.func21, Tryz.ntmps21
  go_wp2
  generalize w.heap.size = rb at *
  go_loopw [] (fun wr => ∃ (S1 : Rn) (f : Nat), NxC l g vb (.slice (some ⟨ob, 0, none⟩) l.length cap) S1 rb w wr ∧ l.length - S1.next ≤ f ∧ runN l f S1 = nextV l S ∧ S1.next ≤ l.length) (fun wr => l.length - nx g wr)
  case atStart => exact ⟨S, l.length, N0, by omega, rfl, hnx⟩
  case round =>
    clear N0
    obtain ⟨S1, f, hN, hf, hrun, hle⟩ := hrel
    have hnxr : nx g wr = S1.next := hN.run.1.nx_
    by_cases hg0 : S1.go = 0
    · by_cases hlt : S1.next < l.length
      · rename_i hcl _
        have hi1 : (S1.next : Int) < (l.length : Int) := by omega
        have hgb : (S1.go == 0) = true := by simp [hg0]
        go_upto_region 1 with fail
        refine RelQ.wp_region_rel RelQ.Grows (fun _ _ => False) (fun _ _ _ h _ => h.elim) (NxC l g vb (.slice (some ⟨ob, 0, none⟩) l.length cap) S1 rb w) [.inl (ptr g 0), .inl (ptr g 0), .inl (ptr g 62), .inl (goV g S1.go), .inl (.bool true), .inl (.bool true), .inl (ptr g 0), .inl (ptr g 0), .inl (ptr g 2), .inl (vI (S1.next : Int)), .inl (ptr g 0), .inl (ptr g 0), .inl (ptr g 0), .inl (.slice (some ⟨ob, 0, none⟩) l.length cap), .inl (vI (l.length : Int)), .inl (.bool true), .inl (.bool true)] (by kernel_rfl) (by kernel_rfl) RelQ.grows_refl (fun _ _ h hb => h.grow hb) (hN.grow (below_dr _)) (by simp [RelQ.upK]) ?_
        refine ⟨fun w3 hC _ => RelQ.uponG_yes rfl ((by go_simp; first | exact RelQ.grows_refl _ | exact ⟨RelQ.grows_refl _, rfl⟩)), ?_⟩
        simp only [Act.put, List.setIfInBounds_toArray, List.set_cons_succ, List.set_cons_zero]
        refine ⟨fun w3 hC _ => RelQ.uponG_yes rfl ((by go_simp; first | exact RelQ.grows_refl _ | exact ⟨RelQ.grows_refl _, rfl⟩)), ?_⟩
        simp only [Act.put, List.setIfInBounds_toArray, List.set_cons_succ, List.set_cons_zero]
        refine ⟨fun w3 hC _ => RelQ.uponG_yes rfl ((by go_simp; first | exact RelQ.grows_refl _ | exact ⟨RelQ.grows_refl _, rfl⟩)), ?_⟩
        simp only [Act.put, List.setIfInBounds_toArray, List.set_cons_succ, List.set_cons_zero]
        refine ⟨fun w3 hC _ => RelQ.uponG_yes rfl ((by have z := hC.run.1.c62; go_simp; first | exact RelQ.grows_refl _ | exact ⟨RelQ.grows_refl _, rfl⟩)), ?_⟩
        simp only [Act.put, List.setIfInBounds_toArray, List.set_cons_succ, List.set_cons_zero]
        refine ⟨fun w3 hC hf => RelQ.uponG_yes rfl (by exact rel_nilE hgb), ?_⟩
        simp only [Act.put, List.setIfInBounds_toArray, List.set_cons_succ, List.set_cons_zero]
        refine ⟨fun w3 hC _ => RelQ.uponG_yes rfl ((by go_simp; first | exact RelQ.grows_refl _ | exact ⟨RelQ.grows_refl _, rfl⟩)), ?_⟩
        simp only [Act.put, List.setIfInBounds_toArray, List.set_cons_succ, List.set_cons_zero]
        refine ⟨fun w3 hC _ => RelQ.uponG_yes rfl ((by go_simp; first | exact RelQ.grows_refl _ | exact ⟨RelQ.grows_refl _, rfl⟩)), ?_⟩
        simp only [Act.put, List.setIfInBounds_toArray, List.set_cons_succ, List.set_cons_zero]
        refine ⟨fun w3 hC _ => RelQ.uponG_yes rfl ((by go_simp; first | exact RelQ.grows_refl _ | exact ⟨RelQ.grows_refl _, rfl⟩)), ?_⟩
        simp only [Act.put, List.setIfInBounds_toArray, List.set_cons_succ, List.set_cons_zero]
        refine ⟨fun w3 hC _ => RelQ.uponG_yes rfl ((by go_simp; first | exact RelQ.grows_refl _ | exact ⟨RelQ.grows_refl _, rfl⟩)), ?_⟩
        simp only [Act.put, List.setIfInBounds_toArray, List.set_cons_succ, List.set_cons_zero]
        refine ⟨fun w3 hC _ => RelQ.uponG_yes rfl ((by have z := hC.run.1.c2; go_simp; first | exact RelQ.grows_refl _ | exact ⟨RelQ.grows_refl _, rfl⟩)), ?_⟩
        simp only [Act.put, List.setIfInBounds_toArray, List.set_cons_succ, List.set_cons_zero]
        refine ⟨fun w3 hC _ => RelQ.uponG_yes rfl ((by go_simp; first | exact RelQ.grows_refl _ | exact ⟨RelQ.grows_refl _, rfl⟩)), ?_⟩
        simp only [Act.put, List.setIfInBounds_toArray, List.set_cons_succ, List.set_cons_zero]
        refine ⟨fun w3 hC _ => RelQ.uponG_yes rfl ((by go_simp; first | exact RelQ.grows_refl _ | exact ⟨RelQ.grows_refl _, rfl⟩)), ?_⟩
        simp only [Act.put, List.setIfInBounds_toArray, List.set_cons_succ, List.set_cons_zero]
        refine ⟨fun w3 hC _ => RelQ.uponG_yes rfl ((by go_simp; first | exact RelQ.grows_refl _ | exact ⟨RelQ.grows_refl _, rfl⟩)), ?_⟩
        simp only [Act.put, List.setIfInBounds_toArray, List.set_cons_succ, List.set_cons_zero]
        refine ⟨fun w3 hC _ => RelQ.uponG_yes rfl ((by have z := hC.run.1.c0; go_simp; first | exact RelQ.grows_refl _ | exact ⟨RelQ.grows_refl _, rfl⟩)), ?_⟩
        simp only [Act.put, List.setIfInBounds_toArray, List.set_cons_succ, List.set_cons_zero]
        refine ⟨fun w3 hC _ => RelQ.uponG_yes rfl ((by go_simp; first | exact RelQ.grows_refl _ | exact ⟨RelQ.grows_refl _, rfl⟩)), ?_⟩
        simp only [Act.put, List.setIfInBounds_toArray, List.set_cons_succ, List.set_cons_zero]
        refine ⟨fun w3 hC hf => RelQ.uponG_yes rfl (by have q : decide ((S1.next : Int) < (l.length : Int)) = true := (by first | exact decide_eq_true (by omega) | exact decide_eq_false (by omega)); go_simp; first | exact RelQ.grows_refl _ | exact ⟨RelQ.grows_refl _, rfl⟩ | (rw [q]; exact ⟨RelQ.grows_refl _, rfl⟩)), ?_⟩
        simp only [Act.put, List.setIfInBounds_toArray, List.set_cons_succ, List.set_cons_zero]
        refine ⟨fun w3 hC _ => RelQ.uponG_yes rfl ((by go_simp; first | exact RelQ.grows_refl _ | exact ⟨RelQ.grows_refl _, rfl⟩)), ?_⟩
        simp only [Act.put, List.setIfInBounds_toArray, List.set_cons_succ, List.set_cons_zero]
        intro w9 hN _
        go_upto_region 2 with fail
        obtain ⟨ob', cap', eo', _, hops⟩ := hN.run.1.opsI
        cases eo'
        have ho := opAt_some hlt
        have hA := hops _ _ ho
        have hfit := fit _ hlt
        generalize hO : opAt l S1.next = O at *
        clear hops
        obtain ⟨n0, hn0⟩ : ∃ n0, n0 = w9.heap.size := ⟨_, rfl⟩
        have hob : ob < n0 := by rw [hn0]; exact (hN.run.1.ob rfl).1
        have hwn : w.heap.size ≤ n0 := by rw [hn0]; exact hN.run.2.size
        have hst : (RdC l g vb (.slice (some ⟨ob, 0, none⟩) l.length cap) S1 rb w n0 O) 0 _ := ⟨hN.grow (below_dr _), fun _ => by rw [hn0], fun h => absurd h (by decide), fun h => absurd h (by decide)⟩
        refine Chn.wp_region_chainL (RdC l g vb (.slice (some ⟨ob, 0, none⟩) l.length cap) S1 rb w n0 O) [10, 11] [2, 2, 2, 2, 2, 2, 2, 2, 2, 2, 2, 2] [ptr g 0, ptr g 0, ptr g 0, .slice (some ⟨ob, 0, none⟩) l.length cap, ptr g 0, ptr g 0, ptr g 2, vI (S1.next : Int), ptr ob (S1.next * 6), opV O, ptr n0 0, undef] (by kernel_rfl) (by kernel_rfl) (by kernel_rfl) (by kernel_rfl) (by kernel_rfl) hst ?_
        clear hst
        refine ⟨fun j w1 hj hC => by exact Chn.upon_pure hC (fun F hF => by (go_simp <;> exact hF)), ?_⟩
        simp only [Act.put, List.setIfInBounds_toArray, List.set_cons_succ, List.set_cons_zero]
        refine ⟨fun j w1 hj hC => by exact Chn.upon_pure hC (fun F hF => by (go_simp <;> exact hF)), ?_⟩
        simp only [Act.put, List.setIfInBounds_toArray, List.set_cons_succ, List.set_cons_zero]
        refine ⟨fun j w1 hj hC => by exact Chn.upon_pure hC (fun F hF => by (go_simp <;> exact hF)), ?_⟩
        simp only [Act.put, List.setIfInBounds_toArray, List.set_cons_succ, List.set_cons_zero]
        refine ⟨fun j w1 hj hC => by
          have z := hC.nx.run.1.c0
          exact Chn.upon_pure hC (fun F hF => by (go_simp <;> exact hF)), ?_⟩
        simp only [Act.put, List.setIfInBounds_toArray, List.set_cons_succ, List.set_cons_zero]
        refine ⟨fun j w1 hj hC => by exact Chn.upon_pure hC (fun F hF => by (go_simp <;> exact hF)), ?_⟩
        simp only [Act.put, List.setIfInBounds_toArray, List.set_cons_succ, List.set_cons_zero]
        refine ⟨fun j w1 hj hC => by exact Chn.upon_pure hC (fun F hF => by (go_simp <;> exact hF)), ?_⟩
        simp only [Act.put, List.setIfInBounds_toArray, List.set_cons_succ, List.set_cons_zero]
        refine ⟨fun j w1 hj hC => by exact Chn.upon_pure hC (fun F hF => by (go_simp <;> exact hF)), ?_⟩
        simp only [Act.put, List.setIfInBounds_toArray, List.set_cons_succ, List.set_cons_zero]
        refine ⟨fun j w1 hj hC => by
          have z := hC.nx.run.1.c2
          exact Chn.upon_pure hC (fun F hF => by (go_simp <;> exact hF)), ?_⟩
        simp only [Act.put, List.setIfInBounds_toArray, List.set_cons_succ, List.set_cons_zero]
        refine ⟨fun j w1 hj hC => by exact Chn.upon_pure hC (fun F hF => by (go_simp <;> exact hF)), ?_⟩
        simp only [Act.put, List.setIfInBounds_toArray, List.set_cons_succ, List.set_cons_zero]
        refine ⟨fun j w1 hj hC => by
          obtain ⟨ob2, cap2, eo2, _, hops2⟩ := hC.nx.run.1.opsI
          cases eo2
          exact upon_load42 (hops2 _ _ ho) hC, ?_⟩
        simp only [Act.put, List.setIfInBounds_toArray, List.set_cons_succ, List.set_cons_zero]
        refine ⟨fun w1 hC => by
          exact upon_alloc42 (C := RdC l g vb (.slice (some ⟨ob, 0, none⟩) l.length cap) S1 rb w n0 O 1) (hC.c0 rfl) ⟨hC.nx.grow (below_alloc _ _), fun h => absurd h (by decide), fun _ => ⟨_, rfl, by have := heap_alloc_new w1 (.cells (opA nilO) 27); rwa [hC.c0 rfl] at this⟩, fun h => absurd h (by decide)⟩, ?_⟩
        simp only [Act.put, List.setIfInBounds_toArray, List.set_cons_succ, List.set_cons_zero]
        refine ⟨fun w1 hC => by
          obtain ⟨Z, hz, hr⟩ := hC.c1 rfl
          exact chn_store (C := RdC l g vb (.slice (some ⟨ob, 0, none⟩) l.length cap) S1 rb w n0 O 2) 27 _ _ rfl n0 0 rfl _ rfl (run_st42 O hz hr) (rd_done hC hr hob hwn), ?_⟩
        simp only [Act.put, List.setIfInBounds_toArray, List.set_cons_succ, List.set_cons_zero]
        intro w5 hC
        have L := hC.c2 (Nat.le_refl _)
        have hN := hC.nx
        clear hC
        have z2 := hN.run.1.c2
        have fz := hN.run.1.fz 2
        go_upto_region 4 with fail
        have R1 := hN.run.1.next_ (S1.next + 1)
        have e1 : ((S1.next + 1 : Nat) : Int) = (S1.next : Int) + 1 := by omega
        rw [e1] at R1
        generalize w5.setCell ⟨g, 2, none⟩ (vI ((S1.next : Int) + 1)) = w6 at R1 ⊢
        have L6 : LocO n0 O w6 := R1.kept L (ne_of_type L hN.run.1.top (by decide)) (ne_of_type L hN.run.1.vals (by decide))
        have A6 := L6.at_
        have N6 := hN.then R1
        have k := carry_c R1.1 hfit (by show 1 ≤ S1.next + 1; omega) (by show S1.next + 1 ≤ l.length; omega)
        go_wp2_with (first | ((with_reducible refine wpList_load42 rfl _ rfl _ rfl _ A6 ?_); simp only [Act.put, List.setIfInBounds_toArray, List.set_cons_succ, List.set_cons_zero]) | (go_at_call 51; (with_reducible refine k.mono ?_); rintro e w7 ⟨rfl, R7⟩; dsimp only))
        have N7 := N6.then R7
        have hst := step_next hlt
        have hstep : carryV l.length { S1 with next := S1.next + 1 } O = stepV l S1 := by unfold stepV; rw [hO]
        rw [hstep] at N7
        go_roundw
        case rel =>
          refine ⟨stepV l S1, f - 1, N7, by omega, ?_, hst.2⟩
          rw [← hrun]
          obtain ⟨f', rfl⟩ : ∃ f', f = f' + 1 := ⟨f - 1, by omega⟩
          show runN l f' _ = if _ then _ else _
          rw [if_pos ⟨hg0, hlt⟩]
        case measure =>
          rw [N7.run.1.nx_, hnxr]
          omega
      · have hgb : (S1.go == 0) = true := by simp [hg0]
        have hS1 : Hid (S1 = nextV l S) := by show S1 = nextV l S; rw [← hrun, runN_stop (fun h => hlt h.2)]
        go_upto_region 1 with fail
        refine RelQ.wp_region_rel RelQ.Grows (fun _ _ => False) (fun _ _ _ h _ => h.elim) (NxC l g vb (.slice (some ⟨ob, 0, none⟩) l.length cap) S1 rb w) [.inl (ptr g 0), .inl (ptr g 0), .inl (ptr g 62), .inl (goV g S1.go), .inl (.bool true), .inl (.bool true), .inl (ptr g 0), .inl (ptr g 0), .inl (ptr g 2), .inl (vI (S1.next : Int)), .inl (ptr g 0), .inl (ptr g 0), .inl (ptr g 0), .inl (.slice (some ⟨ob, 0, none⟩) l.length cap), .inl (vI (l.length : Int)), .inl (.bool false), .inl (.bool false)] (by kernel_rfl) (by kernel_rfl) RelQ.grows_refl (fun _ _ h hb => h.grow hb) (hN.grow (below_dr _)) (by simp [RelQ.upK]) ?_
        refine ⟨fun w3 hC _ => RelQ.uponG_yes rfl ((by go_simp; first | exact RelQ.grows_refl _ | exact ⟨RelQ.grows_refl _, rfl⟩)), ?_⟩
        simp only [Act.put, List.setIfInBounds_toArray, List.set_cons_succ, List.set_cons_zero]
        refine ⟨fun w3 hC _ => RelQ.uponG_yes rfl ((by go_simp; first | exact RelQ.grows_refl _ | exact ⟨RelQ.grows_refl _, rfl⟩)), ?_⟩
        simp only [Act.put, List.setIfInBounds_toArray, List.set_cons_succ, List.set_cons_zero]
        refine ⟨fun w3 hC _ => RelQ.uponG_yes rfl ((by go_simp; first | exact RelQ.grows_refl _ | exact ⟨RelQ.grows_refl _, rfl⟩)), ?_⟩
        simp only [Act.put, List.setIfInBounds_toArray, List.set_cons_succ, List.set_cons_zero]
        refine ⟨fun w3 hC _ => RelQ.uponG_yes rfl ((by have z := hC.run.1.c62; go_simp; first | exact RelQ.grows_refl _ | exact ⟨RelQ.grows_refl _, rfl⟩)), ?_⟩
        simp only [Act.put, List.setIfInBounds_toArray, List.set_cons_succ, List.set_cons_zero]
        refine ⟨fun w3 hC hf => RelQ.uponG_yes rfl (by exact rel_nilE hgb), ?_⟩
        simp only [Act.put, List.setIfInBounds_toArray, List.set_cons_succ, List.set_cons_zero]
        refine ⟨fun w3 hC _ => RelQ.uponG_yes rfl ((by go_simp; first | exact RelQ.grows_refl _ | exact ⟨RelQ.grows_refl _, rfl⟩)), ?_⟩
        simp only [Act.put, List.setIfInBounds_toArray, List.set_cons_succ, List.set_cons_zero]
        refine ⟨fun w3 hC _ => RelQ.uponG_yes rfl ((by go_simp; first | exact RelQ.grows_refl _ | exact ⟨RelQ.grows_refl _, rfl⟩)), ?_⟩
        simp only [Act.put, List.setIfInBounds_toArray, List.set_cons_succ, List.set_cons_zero]
        refine ⟨fun w3 hC _ => RelQ.uponG_yes rfl ((by go_simp; first | exact RelQ.grows_refl _ | exact ⟨RelQ.grows_refl _, rfl⟩)), ?_⟩
        simp only [Act.put, List.setIfInBounds_toArray, List.set_cons_succ, List.set_cons_zero]
        refine ⟨fun w3 hC _ => RelQ.uponG_yes rfl ((by go_simp; first | exact RelQ.grows_refl _ | exact ⟨RelQ.grows_refl _, rfl⟩)), ?_⟩
        simp only [Act.put, List.setIfInBounds_toArray, List.set_cons_succ, List.set_cons_zero]
        refine ⟨fun w3 hC _ => RelQ.uponG_yes rfl ((by have z := hC.run.1.c2; go_simp; first | exact RelQ.grows_refl _ | exact ⟨RelQ.grows_refl _, rfl⟩)), ?_⟩
        simp only [Act.put, List.setIfInBounds_toArray, List.set_cons_succ, List.set_cons_zero]
        refine ⟨fun w3 hC _ => RelQ.uponG_yes rfl ((by go_simp; first | exact RelQ.grows_refl _ | exact ⟨RelQ.grows_refl _, rfl⟩)), ?_⟩
        simp only [Act.put, List.setIfInBounds_toArray, List.set_cons_succ, List.set_cons_zero]
        refine ⟨fun w3 hC _ => RelQ.uponG_yes rfl ((by go_simp; first | exact RelQ.grows_refl _ | exact ⟨RelQ.grows_refl _, rfl⟩)), ?_⟩
        simp only [Act.put, List.setIfInBounds_toArray, List.set_cons_succ, List.set_cons_zero]
        refine ⟨fun w3 hC _ => RelQ.uponG_yes rfl ((by go_simp; first | exact RelQ.grows_refl _ | exact ⟨RelQ.grows_refl _, rfl⟩)), ?_⟩
        simp only [Act.put, List.setIfInBounds_toArray, List.set_cons_succ, List.set_cons_zero]
        refine ⟨fun w3 hC _ => RelQ.uponG_yes rfl ((by have z := hC.run.1.c0; go_simp; first | exact RelQ.grows_refl _ | exact ⟨RelQ.grows_refl _, rfl⟩)), ?_⟩
        simp only [Act.put, List.setIfInBounds_toArray, List.set_cons_succ, List.set_cons_zero]
        refine ⟨fun w3 hC _ => RelQ.uponG_yes rfl ((by go_simp; first | exact RelQ.grows_refl _ | exact ⟨RelQ.grows_refl _, rfl⟩)), ?_⟩
        simp only [Act.put, List.setIfInBounds_toArray, List.set_cons_succ, List.set_cons_zero]
        refine ⟨fun w3 hC hf => RelQ.uponG_yes rfl (by have q : decide ((S1.next : Int) < (l.length : Int)) = false := (by first | exact decide_eq_true (by omega) | exact decide_eq_false (by omega)); go_simp; first | exact RelQ.grows_refl _ | exact ⟨RelQ.grows_refl _, rfl⟩ | (rw [q]; exact ⟨RelQ.grows_refl _, rfl⟩)), ?_⟩
        simp only [Act.put, List.setIfInBounds_toArray, List.set_cons_succ, List.set_cons_zero]
        refine ⟨fun w3 hC _ => RelQ.uponG_yes rfl ((by go_simp; first | exact RelQ.grows_refl _ | exact ⟨RelQ.grows_refl _, rfl⟩)), ?_⟩
        simp only [Act.put, List.setIfInBounds_toArray, List.set_cons_succ, List.set_cons_zero]
        intro w9 hN _
        clear hgb hg0
        go_upto_region 5 with fail
        have hst : Ph (NxC l g vb (.slice (some ⟨ob, 0, none⟩) l.length cap) S1 rb w) (fun x => RT l g vb (.slice (some ⟨ob, 0, none⟩) l.length cap) S1 w x ∧ x.heap[rb]? = some (.cells (wnA S1.w) 56)) 0 _ := hN.grow (below_dr _)
        refine Chn.wp_region_chainL (Ph (NxC l g vb (.slice (some ⟨ob, 0, none⟩) l.length cap) S1 rb w) (fun x => RT l g vb (.slice (some ⟨ob, 0, none⟩) l.length cap) S1 w x ∧ x.heap[rb]? = some (.cells (wnA S1.w) 56))) [9] [1, 1, 1, 0, 1, 1, 1, 1, 1, 1, 1] [ptr g 0, ptr g 0, ptr g 52, wnV S1.w, ptr g 0, ptr g 0, ptr g 62, goV g S1.go, .bool (S1.go != 0), undef, .bool (S1.go != 0)] (by kernel_rfl) (by kernel_rfl) (by kernel_rfl) (by kernel_rfl) (by kernel_rfl) hst ?_
        clear hst
        refine ⟨fun j w1 hj hC => by exact Chn.upon_pure hC (fun F hF => by (go_simp <;> exact hF)), ?_⟩
        simp only [Act.put, List.setIfInBounds_toArray, List.set_cons_succ, List.set_cons_zero]
        refine ⟨fun j w1 hj hC => by exact Chn.upon_pure hC (fun F hF => by (go_simp <;> exact hF)), ?_⟩
        simp only [Act.put, List.setIfInBounds_toArray, List.set_cons_succ, List.set_cons_zero]
        refine ⟨fun j w1 hj hC => by exact Chn.upon_pure hC (fun F hF => by (go_simp <;> exact hF)), ?_⟩
        simp only [Act.put, List.setIfInBounds_toArray, List.set_cons_succ, List.set_cons_zero]
        refine ⟨fun j w1 hj hC => by
          obtain rfl : j = 0 := Nat.le_zero.1 hj
          have hA : (NxC l g vb (.slice (some ⟨ob, 0, none⟩) l.length cap) S1 rb w) w1 := hC
          exact upon_load38 hA.run.1 hC, ?_⟩
        simp only [Act.put, List.setIfInBounds_toArray, List.set_cons_succ, List.set_cons_zero]
        refine ⟨fun j w1 hj hC => by exact Chn.upon_pure hC (fun F hF => by (go_simp <;> exact hF)), ?_⟩
        simp only [Act.put, List.setIfInBounds_toArray, List.set_cons_succ, List.set_cons_zero]
        refine ⟨fun j w1 hj hC => by exact Chn.upon_pure hC (fun F hF => by (go_simp <;> exact hF)), ?_⟩
        simp only [Act.put, List.setIfInBounds_toArray, List.set_cons_succ, List.set_cons_zero]
        refine ⟨fun j w1 hj hC => by exact Chn.upon_pure hC (fun F hF => by (go_simp <;> exact hF)), ?_⟩
        simp only [Act.put, List.setIfInBounds_toArray, List.set_cons_succ, List.set_cons_zero]
        refine ⟨fun j w1 hj hC => by
          have z : w1.cell? ⟨g, 62, none⟩ = some (goV g S1.go) := match j, hC with
            | 0, hC => hC.run.1.c62
            | _ + 1, hC => hC.1.1.c62
          exact Chn.upon_pure hC (fun F hF => by (go_simp <;> exact hF)), ?_⟩
        simp only [Act.put, List.setIfInBounds_toArray, List.set_cons_succ, List.set_cons_zero]
        refine ⟨fun j w1 hj hC => by
          exact upon_nilN hC, ?_⟩
        simp only [Act.put, List.setIfInBounds_toArray, List.set_cons_succ, List.set_cons_zero]
        refine ⟨fun w1 hC => by
          have hA : (NxC l g vb (.slice (some ⟨ob, 0, none⟩) l.length cap) S1 rb w) w1 := hC
          exact chn_store (C := Ph _ _ 1) 56 _ _ rfl rb 0 rfl _ rfl (run_st38 S1.w rfl hA.res) (nx_done hA), ?_⟩
        simp only [Act.put, List.setIfInBounds_toArray, List.set_cons_succ, List.set_cons_zero]
        refine ⟨fun j w1 hj hC => by exact Chn.upon_pure hC (fun F hF => by (go_simp <;> exact hF)), ?_⟩
        simp only [Act.put, List.setIfInBounds_toArray, List.set_cons_succ, List.set_cons_zero]
        intro w5 hC
        have hC : (fun x => RT l g vb (.slice (some ⟨ob, 0, none⟩) l.length cap) S1 w x ∧ x.heap[rb]? = some (.cells (wnA S1.w) 56)) w5 := hC
        go_wp2
        refine bodyPost_ret (back_next rfl hC.2) rfl ?_
        rw [← (show S1 = nextV l S from hS1)]
        exact ⟨rfl, hC.1⟩
    · have hgb : (S1.go == 0) = false := by simp [hg0]
      have hS1 : Hid (S1 = nextV l S) := by show S1 = nextV l S; rw [← hrun, runN_stop (fun h => hg0 h.1)]
      go_upto_region 1 with fail
      refine RelQ.wp_region_rel RelQ.Grows (fun _ _ => False) (fun _ _ _ h _ => h.elim) (NxC l g vb (.slice (some ⟨ob, 0, none⟩) l.length cap) S1 rb w) [.inl (ptr g 0), .inl (ptr g 0), .inl (ptr g 62), .inl (goV g S1.go), .inl (.bool false), .inl (.bool false), .inl (undef), .inl (undef), .inl (undef), .inl (undef), .inl (undef), .inl (undef), .inl (undef), .inl (undef), .inl (undef), .inl (undef), .inl (.bool false)] (by kernel_rfl) (by kernel_rfl) RelQ.grows_refl (fun _ _ h hb => h.grow hb) (hN.grow (below_dr _)) (by simp [RelQ.upK]) ?_
      refine ⟨fun w3 hC _ => RelQ.uponG_yes rfl ((by go_simp; first | exact RelQ.grows_refl _ | exact ⟨RelQ.grows_refl _, rfl⟩)), ?_⟩
      simp only [Act.put, List.setIfInBounds_toArray, List.set_cons_succ, List.set_cons_zero]
      refine ⟨fun w3 hC _ => RelQ.uponG_yes rfl ((by go_simp; first | exact RelQ.grows_refl _ | exact ⟨RelQ.grows_refl _, rfl⟩)), ?_⟩
      simp only [Act.put, List.setIfInBounds_toArray, List.set_cons_succ, List.set_cons_zero]
      refine ⟨fun w3 hC _ => RelQ.uponG_yes rfl ((by go_simp; first | exact RelQ.grows_refl _ | exact ⟨RelQ.grows_refl _, rfl⟩)), ?_⟩
      simp only [Act.put, List.setIfInBounds_toArray, List.set_cons_succ, List.set_cons_zero]
      refine ⟨fun w3 hC _ => RelQ.uponG_yes rfl ((by have z := hC.run.1.c62; go_simp; first | exact RelQ.grows_refl _ | exact ⟨RelQ.grows_refl _, rfl⟩)), ?_⟩
      simp only [Act.put, List.setIfInBounds_toArray, List.set_cons_succ, List.set_cons_zero]
      refine ⟨fun w3 hC hf => RelQ.uponG_yes rfl (by exact rel_nilE hgb), ?_⟩
      simp only [Act.put, List.setIfInBounds_toArray, List.set_cons_succ, List.set_cons_zero]
      refine ⟨fun w3 hC _ => RelQ.uponG_yes rfl ((by go_simp; first | exact RelQ.grows_refl _ | exact ⟨RelQ.grows_refl _, rfl⟩)), ?_⟩
      simp only [Act.put, List.setIfInBounds_toArray, List.set_cons_succ, List.set_cons_zero]
      refine ⟨fun w3 hC _ => RelQ.uponG_no rfl rfl, ?_⟩
      simp only [Act.put, List.setIfInBounds_toArray, List.set_cons_succ, List.set_cons_zero]
      refine ⟨fun w3 hC _ => RelQ.uponG_no rfl rfl, ?_⟩
      simp only [Act.put, List.setIfInBounds_toArray, List.set_cons_succ, List.set_cons_zero]
      refine ⟨fun w3 hC _ => RelQ.uponG_no rfl rfl, ?_⟩
      simp only [Act.put, List.setIfInBounds_toArray, List.set_cons_succ, List.set_cons_zero]
      refine ⟨fun w3 hC _ => RelQ.uponG_no rfl rfl, ?_⟩
      simp only [Act.put, List.setIfInBounds_toArray, List.set_cons_succ, List.set_cons_zero]
      refine ⟨fun w3 hC _ => RelQ.uponG_no rfl rfl, ?_⟩
      simp only [Act.put, List.setIfInBounds_toArray, List.set_cons_succ, List.set_cons_zero]
      refine ⟨fun w3 hC _ => RelQ.uponG_no rfl rfl, ?_⟩
      simp only [Act.put, List.setIfInBounds_toArray, List.set_cons_succ, List.set_cons_zero]
      refine ⟨fun w3 hC _ => RelQ.uponG_no rfl rfl, ?_⟩
      simp only [Act.put, List.setIfInBounds_toArray, List.set_cons_succ, List.set_cons_zero]
      refine ⟨fun w3 hC _ => RelQ.uponG_no rfl rfl, ?_⟩
      simp only [Act.put, List.setIfInBounds_toArray, List.set_cons_succ, List.set_cons_zero]
      refine ⟨fun w3 hC _ => RelQ.uponG_no rfl rfl, ?_⟩
      simp only [Act.put, List.setIfInBounds_toArray, List.set_cons_succ, List.set_cons_zero]
      refine ⟨fun w3 hC _ => RelQ.uponG_no rfl rfl, ?_⟩
      simp only [Act.put, List.setIfInBounds_toArray, List.set_cons_succ, List.set_cons_zero]
      refine ⟨fun w3 hC _ => RelQ.uponG_yes rfl ((by go_simp; first | exact RelQ.grows_refl _ | exact ⟨RelQ.grows_refl _, rfl⟩)), ?_⟩
      simp only [Act.put, List.setIfInBounds_toArray, List.set_cons_succ, List.set_cons_zero]
      intro w9 hN _
      clear hgb hg0
      go_upto_region 5 with fail
      have hst : Ph (NxC l g vb (.slice (some ⟨ob, 0, none⟩) l.length cap) S1 rb w) (fun x => RT l g vb (.slice (some ⟨ob, 0, none⟩) l.length cap) S1 w x ∧ x.heap[rb]? = some (.cells (wnA S1.w) 56)) 0 _ := hN.grow (below_dr _)
      refine Chn.wp_region_chainL (Ph (NxC l g vb (.slice (some ⟨ob, 0, none⟩) l.length cap) S1 rb w) (fun x => RT l g vb (.slice (some ⟨ob, 0, none⟩) l.length cap) S1 w x ∧ x.heap[rb]? = some (.cells (wnA S1.w) 56))) [9] [1, 1, 1, 0, 1, 1, 1, 1, 1, 1, 1] [ptr g 0, ptr g 0, ptr g 52, wnV S1.w, ptr g 0, ptr g 0, ptr g 62, goV g S1.go, .bool (S1.go != 0), undef, .bool (S1.go != 0)] (by kernel_rfl) (by kernel_rfl) (by kernel_rfl) (by kernel_rfl) (by kernel_rfl) hst ?_
      clear hst
      refine ⟨fun j w1 hj hC => by exact Chn.upon_pure hC (fun F hF => by (go_simp <;> exact hF)), ?_⟩
      simp only [Act.put, List.setIfInBounds_toArray, List.set_cons_succ, List.set_cons_zero]
      refine ⟨fun j w1 hj hC => by exact Chn.upon_pure hC (fun F hF => by (go_simp <;> exact hF)), ?_⟩
      simp only [Act.put, List.setIfInBounds_toArray, List.set_cons_succ, List.set_cons_zero]
      refine ⟨fun j w1 hj hC => by exact Chn.upon_pure hC (fun F hF => by (go_simp <;> exact hF)), ?_⟩
      simp only [Act.put, List.setIfInBounds_toArray, List.set_cons_succ, List.set_cons_zero]
      refine ⟨fun j w1 hj hC => by
        obtain rfl : j = 0 := Nat.le_zero.1 hj
        have hA : (NxC l g vb (.slice (some ⟨ob, 0, none⟩) l.length cap) S1 rb w) w1 := hC
        exact upon_load38 hA.run.1 hC, ?_⟩
      simp only [Act.put, List.setIfInBounds_toArray, List.set_cons_succ, List.set_cons_zero]
      refine ⟨fun j w1 hj hC => by exact Chn.upon_pure hC (fun F hF => by (go_simp <;> exact hF)), ?_⟩
      simp only [Act.put, List.setIfInBounds_toArray, List.set_cons_succ, List.set_cons_zero]
      refine ⟨fun j w1 hj hC => by exact Chn.upon_pure hC (fun F hF => by (go_simp <;> exact hF)), ?_⟩
      simp only [Act.put, List.setIfInBounds_toArray, List.set_cons_succ, List.set_cons_zero]
      refine ⟨fun j w1 hj hC => by exact Chn.upon_pure hC (fun F hF => by (go_simp <;> exact hF)), ?_⟩
      simp only [Act.put, List.setIfInBounds_toArray, List.set_cons_succ, List.set_cons_zero]
      refine ⟨fun j w1 hj hC => by
        have z : w1.cell? ⟨g, 62, none⟩ = some (goV g S1.go) := match j, hC with
          | 0, hC => hC.run.1.c62
          | _ + 1, hC => hC.1.1.c62
        exact Chn.upon_pure hC (fun F hF => by (go_simp <;> exact hF)), ?_⟩
      simp only [Act.put, List.setIfInBounds_toArray, List.set_cons_succ, List.set_cons_zero]
      refine ⟨fun j w1 hj hC => by
        exact upon_nilN hC, ?_⟩
      simp only [Act.put, List.setIfInBounds_toArray, List.set_cons_succ, List.set_cons_zero]
      refine ⟨fun w1 hC => by
        have hA : (NxC l g vb (.slice (some ⟨ob, 0, none⟩) l.length cap) S1 rb w) w1 := hC
        exact chn_store (C := Ph _ _ 1) 56 _ _ rfl rb 0 rfl _ rfl (run_st38 S1.w rfl hA.res) (nx_done hA), ?_⟩
      simp only [Act.put, List.setIfInBounds_toArray, List.set_cons_succ, List.set_cons_zero]
      refine ⟨fun j w1 hj hC => by exact Chn.upon_pure hC (fun F hF => by (go_simp <;> exact hF)), ?_⟩
      simp only [Act.put, List.setIfInBounds_toArray, List.set_cons_succ, List.set_cons_zero]
      intro w5 hC
      have hC : (fun x => RT l g vb (.slice (some ⟨ob, 0, none⟩) l.length cap) S1 w x ∧ x.heap[rb]? = some (.cells (wnA S1.w) 56)) w5 := hC
      go_wp2
      refine bodyPost_ret (back_next rfl hC.2) rfl ?_
      rw [← (show S1 = nextV l S from hS1)]
      exact ⟨rfl, hC.1⟩
end
end Go.Proofs.YtccmncecpmemaaaGreatDoor
