/- Are all operations right? -/
import Derived.Test.YtilbnjldfgofmaaXi
import Derived.Test.YtilbnjldfgofmaaRelQ
namespace Go.Proofs.Ytilbnjldfgofmaa
open Go.RowKit
set_option linter.unusedVariables false
set_option linter.unusedSimpArgs false
set_option maxRecDepth 8000

theorem rel_load42 {E : List PanicEntry → World → Prop} {w : World} {p : Addr} {O : Opr} {o : Oper} {a : Act} {x : Operand} (A : OpAt w p O) (ho : o.op = .load 40 x := by rfl) (hx : a.eval x = .pointer (some p) := by rfl) : RelQ.relUpon Try.prog RelQ.Grows E (fun v _ => v = opV O) w ((execOp a.eval o).run Try.prog w) := by
  unfold execOp
  simp only [ho, hx, Instr.loadAt, Instr.sureAddr, Sem.run_bind, Sem.run_pure, Result.andThen_ok, run_load42 A]
  exact ⟨RelQ.grows_refl _, rfl⟩
theorem Ops.take {w : World} {ra : Addr} {n cap k : Nat} {l : List Opr} (h : Ops w (.slice (some ra) n cap) l) (hk : k ≤ l.length) (h0 : 0 < l.length) : Ops w (.slice (some ra) k cap) (l.take k) := by
  obtain ⟨rb, c2, e, hc⟩ := h.cell h0
  cases e
  have e1 : (l.take k).length = k := by rw [List.length_take]; omega
  refine ⟨⟨_, _, by rw [e1]⟩, by have := h.max; omega, fun _ => ⟨ra, cap, by rw [e1], fun i o ho => ?_⟩⟩
  rw [List.getElem?_take] at ho
  split at ho
  · exact hc i o ho
  · cases ho
/-- While an operation is asked. -/
structure AR (w : World) (v : Value) (l : List Opr) (t : Nat) (o : Opr) (x : World) : Prop where
  loc : LocO t o x
  ops : Ops x v l
  below : Below w.heap.size w x
theorem AR.grow {w : World} {v : Value} {l : List Opr} {t : Nat} {o : Opr} {x y : World} (h : AR w v l t o x) (hb : Below x.heap.size x y) : AR w v l t o y := ⟨h.loc.grow hb, h.ops.grow hb, below_then h.below (Nat.le_refl _) hb⟩
theorem okAt_k {l : List Opr} {k : Nat} (h : isK (opAt l k).kind = false) : okAt l k = false := by unfold okAt; rw [h]; rfl
theorem opsB_no {l : List Opr} {k : Nat} (hk : k < l.length) (h : okAt l k = false) : opsB l = false := by
  unfold opsB
  rw [List.all_eq_false]
  exact ⟨k, List.mem_range.2 hk, by simp [h]⟩
theorem opsB_yes {l : List Opr} (h : ∀ k, k < l.length → okAt l k = true) : opsB l = true := List.all_eq_true.2 fun k hk => h k (List.mem_range.1 hk)
theorem okK {l : List Opr} {j : Nat} (h : okAt l j = true) : isK (opAt l j).kind = true := by
  unfold okAt at h
  simp only [Bool.and_eq_true] at h
  exact h.1.1.1
theorem uses_len (o : Opr) : (usesL o).length ≤ 2 := by unfold usesL; split <;> split <;> simp
set_option maxHeartbeats 8000000 in
theorem areOps_c {w : World} {v : Value} {l : List Opr} (O : Ops w v l) (hl : l.length ≤ 512) (himm : ∀ k, 0 ≤ (opAt l k).imm) (hcap : ∀ ao n cap, v = .slice ao n cap → n ≤ cap) :
    Calls Try.prog 65 #[v] w fun e w' => (e = .returned (.bool (opsB l)) ∨ (e = .panicked pan ∧ opsB l = false)) ∧ Below w.heap.size w w' := by
  obtain ⟨ao, cap, ev⟩ := O.len
  have hcl := hcap _ _ _ ev
  clear hcap
  subst ev
  go_enter Try.func65, Try.ntmps65
  go_wp2
  go_loopw [8] (fun s8 wr => ∃ k : Nat, k ≤ l.length ∧ s8 = vI k ∧ (∀ j, j < k → okAt l j = true) ∧ Below w.heap.size w wr) (fun s8 _ => ((l.length : Int) - intOf s8).toNat)
  case atStart => exact ⟨0, Nat.zero_le _, rfl, fun _ h => absurd h (by omega), Below.refl _ _⟩
  case round =>
    obtain ⟨k, hk, rfl, hall, hB⟩ := hrel
    by_cases hlt : (k : Int) < l.length
    · have hkl : k < l.length := by omega
      have hkc : k ≤ cap := by omega
      have O1 := O.grow hB
      obtain ⟨ra, cap', ev', hc⟩ := O1.cell (by omega)
      cases ev'
      have A := hc k _ (opAt_some hkl)
      have hlast : decide ((k : Int) = (l.length : Int) - 1) = decide (k + 1 = l.length) := by
        rw [decide_eq_decide]; omega
      have hi := himm k
      have hokk : okAt l k = (isK (opAt l k).kind && (hasP (opAt l k).kind 128 == decide (k + 1 = l.length)) && opB (opAt l k) && (usesL (opAt l k)).all (defB l k)) := rfl
      generalize opAt l k = o at *
      clear hc
      go_upto_region 5 with (first | ((with_reducible refine wpList_load42 rfl _ rfl _ rfl o A ?_); simp only [Act.put, List.setIfInBounds_toArray, List.set_cons_succ, List.set_cons_zero]))
      have hL : ((k : Int) == (l.length : Int) - 1) = decide (k + 1 = l.length) := by
        rw [← hlast]
        rw [Bool.eq_iff_iff]; simp
      rw [hL]
      clear hlast hL
      have hr : AR w (.slice (some ra) l.length cap) l wr.heap.size o (wr.alloc (.cells (opA o) 40)) := ⟨LocO.new wr o, O1.grow (below_alloc _ _), below_then hB (Nat.le_refl _) (below_alloc _ _)⟩
      generalize hw2 : wr.alloc (.cells (opA o) 40) = w2 at hr ⊢
      clear hw2 A O1
      generalize wr.heap.size = t at hr ⊢
      cases hK : isK o.kind with
      | false =>
        have hno := opsB_no hkl (by rw [hokk, hK]; rfl)
        clear hokk
        refine RelQ.wp_region_rel RelQ.Grows (fun ch x => ch = pan ∧ Below w.heap.size w x) (fun ch a1 x h hd => ⟨by rw [hd], .inr ⟨by rw [h.1], hno⟩, h.2⟩) (AR w (.slice (some ra) l.length cap) l t o) [.inl (ptr t 0), .inl (vI o.kind), .inr (fun _ _ => False), .inr (fun _ _ => False), .inl (.bool (decide (k + 1 = l.length))), .inr (fun _ _ => False), .inr (fun _ _ => False), .inr (fun _ _ => False), .inr (fun _ _ => False), .inr (fun _ _ => False), .inr (fun _ _ => False), .inr (fun _ _ => False), .inr (fun _ _ => False), .inr (fun _ _ => False), .inr (fun _ _ => False), .inr (fun _ _ => False), .inr (fun _ _ => False), .inr (fun _ _ => False), .inr (fun _ _ => False), .inr (fun _ _ => False)] (by kernel_rfl) (by kernel_rfl) RelQ.grows_refl (fun _ _ h hb => h.grow hb) (hr.grow (below_dr _)) (by intro k hk; simp only [List.mem_cons, List.not_mem_nil, or_false] at hk; rcases hk with rfl | rfl | rfl | rfl | rfl | rfl | rfl | rfl | rfl | rfl | rfl | rfl | rfl | rfl | rfl | rfl | rfl | rfl | rfl | rfl <;> first | exact trivial | exact (fun v x y h hb => h.grow hb) | exact (fun v x y h hb => h)) ?_
        refine ⟨fun w3 hC _ => RelQ.uponG_yes rfl ((by go_simp; first | exact RelQ.grows_refl _ | exact ⟨RelQ.grows_refl _, rfl⟩)), ?_⟩
        simp only [Act.put, List.setIfInBounds_toArray, List.set_cons_succ, List.set_cons_zero]
        refine ⟨fun w3 hC _ => RelQ.uponG_yes rfl ((by have z := hC.loc.c0; go_simp; first | exact RelQ.grows_refl _ | exact ⟨RelQ.grows_refl _, rfl⟩)), ?_⟩
        simp only [Act.put, List.setIfInBounds_toArray, List.set_cons_succ, List.set_cons_zero]
        refine ⟨fun w3 hC hf => RelQ.uponG_yes rfl ((by go_simp; refine (shapeOf_p _ hK _).mono ?_; rintro e w4 ⟨rfl, hb⟩; exact ⟨_, rfl, rfl, below_then hC.below (Nat.le_refl _) hb⟩)), ?_⟩
        intro _
        simp only [Act.put, List.setIfInBounds_toArray, List.set_cons_succ, List.set_cons_zero]
        refine ⟨fun w3 hC hf => by (have hx := hf 2 (by kernel_rfl); simp at hx), ?_⟩
        intro _
        simp only [Act.put, List.setIfInBounds_toArray, List.set_cons_succ, List.set_cons_zero]
        refine ⟨fun w3 hC _ => RelQ.uponG_yes rfl ((by go_simp; first | exact RelQ.grows_refl _ | exact ⟨RelQ.grows_refl _, rfl⟩)), ?_⟩
        simp only [Act.put, List.setIfInBounds_toArray, List.set_cons_succ, List.set_cons_zero]
        refine ⟨fun w3 hC hf => by (have hx := hf 3 (by kernel_rfl); simp at hx), ?_⟩
        intro _
        simp only [Act.put, List.setIfInBounds_toArray, List.set_cons_succ, List.set_cons_zero]
        refine ⟨fun w3 hC hf => by (have hx := hf 5 (by kernel_rfl); simp at hx), ?_⟩
        intro _
        simp only [Act.put, List.setIfInBounds_toArray, List.set_cons_succ, List.set_cons_zero]
        refine ⟨fun w3 hC hf => by (have hx := hf 6 (by kernel_rfl); simp at hx), ?_⟩
        intro _
        simp only [Act.put, List.setIfInBounds_toArray, List.set_cons_succ, List.set_cons_zero]
        refine ⟨fun w3 hC hf => by (have hx := hf 7 (by kernel_rfl); simp at hx), ?_⟩
        intro _
        simp only [Act.put, List.setIfInBounds_toArray, List.set_cons_succ, List.set_cons_zero]
        refine ⟨fun w3 hC hf => by (have hx := hf 8 (by kernel_rfl); simp at hx), ?_⟩
        intro _
        simp only [Act.put, List.setIfInBounds_toArray, List.set_cons_succ, List.set_cons_zero]
        refine ⟨fun w3 hC hf => by (have hx := hf 6 (by kernel_rfl); simp at hx), ?_⟩
        intro _
        simp only [Act.put, List.setIfInBounds_toArray, List.set_cons_succ, List.set_cons_zero]
        refine ⟨fun w3 hC hf => by (have hx := hf 10 (by kernel_rfl); simp at hx), ?_⟩
        intro _
        simp only [Act.put, List.setIfInBounds_toArray, List.set_cons_succ, List.set_cons_zero]
        refine ⟨fun w3 hC hf => by (have hx := hf 11 (by kernel_rfl); simp at hx), ?_⟩
        intro _
        simp only [Act.put, List.setIfInBounds_toArray, List.set_cons_succ, List.set_cons_zero]
        refine ⟨fun w3 hC hf => by (have hx := hf 12 (by kernel_rfl); simp at hx), ?_⟩
        intro _
        simp only [Act.put, List.setIfInBounds_toArray, List.set_cons_succ, List.set_cons_zero]
        refine ⟨fun w3 hC hf => by (have hx := hf 11 (by kernel_rfl); simp at hx), ?_⟩
        intro _
        simp only [Act.put, List.setIfInBounds_toArray, List.set_cons_succ, List.set_cons_zero]
        refine ⟨fun w3 hC hf => by (have hx := hf 11 (by kernel_rfl); simp at hx), ?_⟩
        intro _
        simp only [Act.put, List.setIfInBounds_toArray, List.set_cons_succ, List.set_cons_zero]
        refine ⟨fun w3 hC hf => by (have hx := hf 11 (by kernel_rfl); simp at hx), ?_⟩
        intro _
        simp only [Act.put, List.setIfInBounds_toArray, List.set_cons_succ, List.set_cons_zero]
        refine ⟨fun w3 hC hf => by (have hx := hf 13 (by kernel_rfl); simp at hx), ?_⟩
        intro _
        simp only [Act.put, List.setIfInBounds_toArray, List.set_cons_succ, List.set_cons_zero]
        refine ⟨fun w3 hC hf => by (have hx := hf 17 (by kernel_rfl); simp at hx), ?_⟩
        intro _
        simp only [Act.put, List.setIfInBounds_toArray, List.set_cons_succ, List.set_cons_zero]
        refine ⟨fun w3 hC hf => by (have hx := hf 18 (by kernel_rfl); simp at hx), ?_⟩
        intro _
        simp only [Act.put, List.setIfInBounds_toArray, List.set_cons_succ, List.set_cons_zero]
        intro w9 hN hf
        have hx := hf 19
        simp at hx
      | true =>
        rw [hK] at hokk
        cases hE : hasP o.kind 128 <;> cases hD : decide (k + 1 = l.length) <;> rw [hE, hD] at hokk
        · cases hO : opB o with
          | false =>
            have hno := opsB_no hkl (by rw [hokk, hO]; rfl)
            clear hokk
            refine RelQ.wp_region_rel RelQ.Grows (fun _ _ => False) (fun _ _ _ h _ => h.elim) (AR w (.slice (some ra) l.length cap) l t o) [.inl (ptr t 0), .inl (vI o.kind), .inl ((.agg #[.string (nameV o.kind), vI (partsV o.kind)])), .inl (.bool false), .inl (.bool false), .inl (.bool false), .inl (.bool false), .inl (opV o), .inl (.bool false), .inl (.bool true), .inl (.bool true), .inl (.bool true), .inl (undef), .inl (undef), .inl (undef), .inl (undef), .inl (undef), .inl (undef), .inl (undef), .inl (.bool true)] (by kernel_rfl) (by kernel_rfl) RelQ.grows_refl (fun _ _ h hb => h.grow hb) (hr.grow (below_dr _)) (by intro k hk; simp only [List.mem_cons, List.not_mem_nil, or_false] at hk; rcases hk with rfl | rfl | rfl | rfl | rfl | rfl | rfl | rfl | rfl | rfl | rfl | rfl | rfl | rfl | rfl | rfl | rfl | rfl | rfl | rfl <;> first | exact trivial | exact (fun v x y h hb => h.grow hb) | exact (fun v x y h hb => h)) ?_
            refine ⟨fun w3 hC _ => RelQ.uponG_yes rfl ((by go_simp; first | exact RelQ.grows_refl _ | exact ⟨RelQ.grows_refl _, rfl⟩)), ?_⟩
            simp only [Act.put, List.setIfInBounds_toArray, List.set_cons_succ, List.set_cons_zero]
            refine ⟨fun w3 hC _ => RelQ.uponG_yes rfl ((by have z := hC.loc.c0; go_simp; first | exact RelQ.grows_refl _ | exact ⟨RelQ.grows_refl _, rfl⟩)), ?_⟩
            simp only [Act.put, List.setIfInBounds_toArray, List.set_cons_succ, List.set_cons_zero]
            refine ⟨fun w3 hC hf => RelQ.uponG_yes rfl ((by go_simp; refine (shapeOf_c _ hK _).mono ?_; rintro e w4 ⟨rfl, hb⟩; first | exact ⟨rfl, hb⟩ | exact .inl ⟨_, rfl, hb, rfl⟩ | exact .inl ⟨rfl, hb⟩)), ?_⟩
            simp only [Act.put, List.setIfInBounds_toArray, List.set_cons_succ, List.set_cons_zero]
            refine ⟨fun w3 hC hf => RelQ.uponG_yes rfl ((by go_simp; refine (hasK_c o.kind 128 _).mono ?_; rintro e w4 ⟨rfl, hb⟩; rw [hE]; first | exact ⟨rfl, hb⟩ | exact .inl ⟨_, rfl, hb, rfl⟩ | exact .inl ⟨rfl, hb⟩)), ?_⟩
            simp only [Act.put, List.setIfInBounds_toArray, List.set_cons_succ, List.set_cons_zero]
            refine ⟨fun w3 hC _ => RelQ.uponG_yes rfl ((by go_simp; first | exact RelQ.grows_refl _ | exact ⟨RelQ.grows_refl _, rfl⟩)), ?_⟩
            simp only [Act.put, List.setIfInBounds_toArray, List.set_cons_succ, List.set_cons_zero]
            refine ⟨fun w3 hC _ => RelQ.uponG_yes rfl ((by go_simp; first | exact RelQ.grows_refl _ | exact ⟨RelQ.grows_refl _, rfl⟩)), ?_⟩
            simp only [Act.put, List.setIfInBounds_toArray, List.set_cons_succ, List.set_cons_zero]
            refine ⟨fun w3 hC _ => RelQ.uponG_yes rfl ((by go_simp; first | exact RelQ.grows_refl _ | exact ⟨RelQ.grows_refl _, rfl⟩)), ?_⟩
            simp only [Act.put, List.setIfInBounds_toArray, List.set_cons_succ, List.set_cons_zero]
            refine ⟨fun w3 hC hf => RelQ.uponG_yes rfl (by exact rel_load42 hC.loc.at_), ?_⟩
            simp only [Act.put, List.setIfInBounds_toArray, List.set_cons_succ, List.set_cons_zero]
            refine ⟨fun w3 hC hf => RelQ.uponG_yes rfl ((by go_simp; refine (isOpRight_c o hK hi _).mono ?_; rintro e w4 ⟨rfl, hb⟩; rw [hO]; first | exact ⟨rfl, hb⟩ | exact .inl ⟨_, rfl, hb, rfl⟩ | exact .inl ⟨rfl, hb⟩)), ?_⟩
            simp only [Act.put, List.setIfInBounds_toArray, List.set_cons_succ, List.set_cons_zero]
            refine ⟨fun w3 hC _ => RelQ.uponG_yes rfl ((by go_simp; first | exact RelQ.grows_refl _ | exact ⟨RelQ.grows_refl _, rfl⟩)), ?_⟩
            simp only [Act.put, List.setIfInBounds_toArray, List.set_cons_succ, List.set_cons_zero]
            refine ⟨fun w3 hC _ => RelQ.uponG_yes rfl ((by go_simp; first | exact RelQ.grows_refl _ | exact ⟨RelQ.grows_refl _, rfl⟩)), ?_⟩
            simp only [Act.put, List.setIfInBounds_toArray, List.set_cons_succ, List.set_cons_zero]
            refine ⟨fun w3 hC _ => RelQ.uponG_yes rfl ((by go_simp; first | exact RelQ.grows_refl _ | exact ⟨RelQ.grows_refl _, rfl⟩)), ?_⟩
            simp only [Act.put, List.setIfInBounds_toArray, List.set_cons_succ, List.set_cons_zero]
            refine ⟨fun w3 hC _ => RelQ.uponG_no rfl rfl, ?_⟩
            simp only [Act.put, List.setIfInBounds_toArray, List.set_cons_succ, List.set_cons_zero]
            refine ⟨fun w3 hC _ => RelQ.uponG_no rfl rfl, ?_⟩
            simp only [Act.put, List.setIfInBounds_toArray, List.set_cons_succ, List.set_cons_zero]
            refine ⟨fun w3 hC _ => RelQ.uponG_no rfl rfl, ?_⟩
            simp only [Act.put, List.setIfInBounds_toArray, List.set_cons_succ, List.set_cons_zero]
            refine ⟨fun w3 hC _ => RelQ.uponG_no rfl rfl, ?_⟩
            simp only [Act.put, List.setIfInBounds_toArray, List.set_cons_succ, List.set_cons_zero]
            refine ⟨fun w3 hC _ => RelQ.uponG_no rfl rfl, ?_⟩
            simp only [Act.put, List.setIfInBounds_toArray, List.set_cons_succ, List.set_cons_zero]
            refine ⟨fun w3 hC _ => RelQ.uponG_no rfl rfl, ?_⟩
            simp only [Act.put, List.setIfInBounds_toArray, List.set_cons_succ, List.set_cons_zero]
            refine ⟨fun w3 hC _ => RelQ.uponG_no rfl rfl, ?_⟩
            simp only [Act.put, List.setIfInBounds_toArray, List.set_cons_succ, List.set_cons_zero]
            refine ⟨fun w3 hC _ => RelQ.uponG_yes rfl ((by go_simp; first | exact RelQ.grows_refl _ | exact ⟨RelQ.grows_refl _, rfl⟩)), ?_⟩
            simp only [Act.put, List.setIfInBounds_toArray, List.set_cons_succ, List.set_cons_zero]
            intro w9 hN _
            go_wp2
            go_ret
            first | exact ⟨.inl (r_bool hno.symm), hN.below⟩ | exact ⟨.inl rfl, hN.below⟩ | (rw [hno]; exact ⟨.inl rfl, hN.below⟩)
          | true =>
            cases hU : (usesL o).all (defB l k) with
            | false =>
              have hno := opsB_no hkl (by rw [hokk, hO, hU]; rfl)
              clear hokk
              refine RelQ.wp_region_rel RelQ.Grows (fun _ _ => False) (fun _ _ _ h _ => h.elim) (AR w (.slice (some ra) l.length cap) l t o) [.inl (ptr t 0), .inl (vI o.kind), .inl ((.agg #[.string (nameV o.kind), vI (partsV o.kind)])), .inl (.bool false), .inl (.bool false), .inl (.bool false), .inl (.bool false), .inl (opV o), .inl (.bool true), .inl (.bool false), .inl (.bool false), .inl (.bool false), .inl (opV o), .inr (fun u x => RawI x u (usesL o)), .inl (.slice (some ra) l.length cap), .inl (vI k), .inl (.slice (some ra) k cap), .inl (.bool false), .inl (.bool true), .inl (.bool true)] (by kernel_rfl) (by kernel_rfl) RelQ.grows_refl (fun _ _ h hb => h.grow hb) (hr.grow (below_dr _)) (by intro k hk; simp only [List.mem_cons, List.not_mem_nil, or_false] at hk; rcases hk with rfl | rfl | rfl | rfl | rfl | rfl | rfl | rfl | rfl | rfl | rfl | rfl | rfl | rfl | rfl | rfl | rfl | rfl | rfl | rfl <;> first | exact trivial | exact (fun v x y h hb => h.grow hb) | exact (fun v x y h hb => h)) ?_
              refine ⟨fun w3 hC _ => RelQ.uponG_yes rfl ((by go_simp; first | exact RelQ.grows_refl _ | exact ⟨RelQ.grows_refl _, rfl⟩)), ?_⟩
              simp only [Act.put, List.setIfInBounds_toArray, List.set_cons_succ, List.set_cons_zero]
              refine ⟨fun w3 hC _ => RelQ.uponG_yes rfl ((by have z := hC.loc.c0; go_simp; first | exact RelQ.grows_refl _ | exact ⟨RelQ.grows_refl _, rfl⟩)), ?_⟩
              simp only [Act.put, List.setIfInBounds_toArray, List.set_cons_succ, List.set_cons_zero]
              refine ⟨fun w3 hC hf => RelQ.uponG_yes rfl ((by go_simp; refine (shapeOf_c _ hK _).mono ?_; rintro e w4 ⟨rfl, hb⟩; first | exact ⟨rfl, hb⟩ | exact .inl ⟨_, rfl, hb, rfl⟩ | exact .inl ⟨rfl, hb⟩)), ?_⟩
              simp only [Act.put, List.setIfInBounds_toArray, List.set_cons_succ, List.set_cons_zero]
              refine ⟨fun w3 hC hf => RelQ.uponG_yes rfl ((by go_simp; refine (hasK_c o.kind 128 _).mono ?_; rintro e w4 ⟨rfl, hb⟩; rw [hE]; first | exact ⟨rfl, hb⟩ | exact .inl ⟨_, rfl, hb, rfl⟩ | exact .inl ⟨rfl, hb⟩)), ?_⟩
              simp only [Act.put, List.setIfInBounds_toArray, List.set_cons_succ, List.set_cons_zero]
              refine ⟨fun w3 hC _ => RelQ.uponG_yes rfl ((by go_simp; first | exact RelQ.grows_refl _ | exact ⟨RelQ.grows_refl _, rfl⟩)), ?_⟩
              simp only [Act.put, List.setIfInBounds_toArray, List.set_cons_succ, List.set_cons_zero]
              refine ⟨fun w3 hC _ => RelQ.uponG_yes rfl ((by go_simp; first | exact RelQ.grows_refl _ | exact ⟨RelQ.grows_refl _, rfl⟩)), ?_⟩
              simp only [Act.put, List.setIfInBounds_toArray, List.set_cons_succ, List.set_cons_zero]
              refine ⟨fun w3 hC _ => RelQ.uponG_yes rfl ((by go_simp; first | exact RelQ.grows_refl _ | exact ⟨RelQ.grows_refl _, rfl⟩)), ?_⟩
              simp only [Act.put, List.setIfInBounds_toArray, List.set_cons_succ, List.set_cons_zero]
              refine ⟨fun w3 hC hf => RelQ.uponG_yes rfl (by exact rel_load42 hC.loc.at_), ?_⟩
              simp only [Act.put, List.setIfInBounds_toArray, List.set_cons_succ, List.set_cons_zero]
              refine ⟨fun w3 hC hf => RelQ.uponG_yes rfl ((by go_simp; refine (isOpRight_c o hK hi _).mono ?_; rintro e w4 ⟨rfl, hb⟩; rw [hO]; first | exact ⟨rfl, hb⟩ | exact .inl ⟨_, rfl, hb, rfl⟩ | exact .inl ⟨rfl, hb⟩)), ?_⟩
              simp only [Act.put, List.setIfInBounds_toArray, List.set_cons_succ, List.set_cons_zero]
              refine ⟨fun w3 hC _ => RelQ.uponG_yes rfl ((by go_simp; first | exact RelQ.grows_refl _ | exact ⟨RelQ.grows_refl _, rfl⟩)), ?_⟩
              simp only [Act.put, List.setIfInBounds_toArray, List.set_cons_succ, List.set_cons_zero]
              refine ⟨fun w3 hC _ => RelQ.uponG_yes rfl ((by go_simp; first | exact RelQ.grows_refl _ | exact ⟨RelQ.grows_refl _, rfl⟩)), ?_⟩
              simp only [Act.put, List.setIfInBounds_toArray, List.set_cons_succ, List.set_cons_zero]
              refine ⟨fun w3 hC _ => RelQ.uponG_yes rfl ((by go_simp; first | exact RelQ.grows_refl _ | exact ⟨RelQ.grows_refl _, rfl⟩)), ?_⟩
              simp only [Act.put, List.setIfInBounds_toArray, List.set_cons_succ, List.set_cons_zero]
              refine ⟨fun w3 hC hf => RelQ.uponG_yes rfl (by exact rel_load42 hC.loc.at_), ?_⟩
              simp only [Act.put, List.setIfInBounds_toArray, List.set_cons_succ, List.set_cons_zero]
              refine ⟨fun w3 hC hf => RelQ.uponG_yes rfl ((by go_simp; refine (uses_c o hK _).mono ?_; rintro e w4 ⟨u, rfl, ho, hb⟩; first | exact ⟨_, rfl, hb, raw_own ho⟩ | exact .inl ⟨_, rfl, hb, raw_own ho⟩)), ?_⟩
              intro u
              simp only [Act.put, List.setIfInBounds_toArray, List.set_cons_succ, List.set_cons_zero]
              refine ⟨fun w3 hC _ => RelQ.uponG_yes rfl ((by go_simp; first | exact RelQ.grows_refl _ | exact ⟨RelQ.grows_refl _, rfl⟩)), ?_⟩
              simp only [Act.put, List.setIfInBounds_toArray, List.set_cons_succ, List.set_cons_zero]
              refine ⟨fun w3 hC _ => RelQ.uponG_yes rfl ((by go_simp; first | exact RelQ.grows_refl _ | exact ⟨RelQ.grows_refl _, rfl⟩)), ?_⟩
              simp only [Act.put, List.setIfInBounds_toArray, List.set_cons_succ, List.set_cons_zero]
              refine ⟨fun w3 hC _ => RelQ.uponG_yes rfl ((by go_simp; first | exact RelQ.grows_refl _ | exact ⟨RelQ.grows_refl _, rfl⟩)), ?_⟩
              simp only [Act.put, List.setIfInBounds_toArray, List.set_cons_succ, List.set_cons_zero]
              refine ⟨fun w3 hC hf => RelQ.uponG_yes rfl ((by go_simp; refine (areDefined_c ((hf 13 (by kernel_rfl)).1 rfl) (uses_len o) (hC.ops.take hk (by omega)) hk (by omega) (fun j hj => okK (hall j hj))).mono ?_; rintro e w4 ⟨rfl, hb⟩; rw [hU]; first | exact ⟨rfl, hb⟩ | exact .inl ⟨_, rfl, hb, rfl⟩ | exact .inl ⟨rfl, hb⟩)), ?_⟩
              simp only [Act.put, List.setIfInBounds_toArray, List.set_cons_succ, List.set_cons_zero]
              refine ⟨fun w3 hC _ => RelQ.uponG_yes rfl ((by go_simp; first | exact RelQ.grows_refl _ | exact ⟨RelQ.grows_refl _, rfl⟩)), ?_⟩
              simp only [Act.put, List.setIfInBounds_toArray, List.set_cons_succ, List.set_cons_zero]
              refine ⟨fun w3 hC _ => RelQ.uponG_yes rfl ((by go_simp; first | exact RelQ.grows_refl _ | exact ⟨RelQ.grows_refl _, rfl⟩)), ?_⟩
              simp only [Act.put, List.setIfInBounds_toArray, List.set_cons_succ, List.set_cons_zero]
              intro w9 hN _
              go_wp2
              go_ret
              first | exact ⟨.inl (r_bool hno.symm), hN.below⟩ | exact ⟨.inl rfl, hN.below⟩ | (rw [hno]; exact ⟨.inl rfl, hN.below⟩)
            | true =>
              have hyes : okAt l k = true := by rw [hokk, hO, hU]; rfl
              clear hokk
              refine RelQ.wp_region_rel RelQ.Grows (fun _ _ => False) (fun _ _ _ h _ => h.elim) (AR w (.slice (some ra) l.length cap) l t o) [.inl (ptr t 0), .inl (vI o.kind), .inl ((.agg #[.string (nameV o.kind), vI (partsV o.kind)])), .inl (.bool false), .inl (.bool false), .inl (.bool false), .inl (.bool false), .inl (opV o), .inl (.bool true), .inl (.bool false), .inl (.bool false), .inl (.bool false), .inl (opV o), .inr (fun u x => RawI x u (usesL o)), .inl (.slice (some ra) l.length cap), .inl (vI k), .inl (.slice (some ra) k cap), .inl (.bool true), .inl (.bool false), .inl (.bool false)] (by kernel_rfl) (by kernel_rfl) RelQ.grows_refl (fun _ _ h hb => h.grow hb) (hr.grow (below_dr _)) (by intro k hk; simp only [List.mem_cons, List.not_mem_nil, or_false] at hk; rcases hk with rfl | rfl | rfl | rfl | rfl | rfl | rfl | rfl | rfl | rfl | rfl | rfl | rfl | rfl | rfl | rfl | rfl | rfl | rfl | rfl <;> first | exact trivial | exact (fun v x y h hb => h.grow hb) | exact (fun v x y h hb => h)) ?_
              refine ⟨fun w3 hC _ => RelQ.uponG_yes rfl ((by go_simp; first | exact RelQ.grows_refl _ | exact ⟨RelQ.grows_refl _, rfl⟩)), ?_⟩
              simp only [Act.put, List.setIfInBounds_toArray, List.set_cons_succ, List.set_cons_zero]
              refine ⟨fun w3 hC _ => RelQ.uponG_yes rfl ((by have z := hC.loc.c0; go_simp; first | exact RelQ.grows_refl _ | exact ⟨RelQ.grows_refl _, rfl⟩)), ?_⟩
              simp only [Act.put, List.setIfInBounds_toArray, List.set_cons_succ, List.set_cons_zero]
              refine ⟨fun w3 hC hf => RelQ.uponG_yes rfl ((by go_simp; refine (shapeOf_c _ hK _).mono ?_; rintro e w4 ⟨rfl, hb⟩; first | exact ⟨rfl, hb⟩ | exact .inl ⟨_, rfl, hb, rfl⟩ | exact .inl ⟨rfl, hb⟩)), ?_⟩
              simp only [Act.put, List.setIfInBounds_toArray, List.set_cons_succ, List.set_cons_zero]
              refine ⟨fun w3 hC hf => RelQ.uponG_yes rfl ((by go_simp; refine (hasK_c o.kind 128 _).mono ?_; rintro e w4 ⟨rfl, hb⟩; rw [hE]; first | exact ⟨rfl, hb⟩ | exact .inl ⟨_, rfl, hb, rfl⟩ | exact .inl ⟨rfl, hb⟩)), ?_⟩
              simp only [Act.put, List.setIfInBounds_toArray, List.set_cons_succ, List.set_cons_zero]
              refine ⟨fun w3 hC _ => RelQ.uponG_yes rfl ((by go_simp; first | exact RelQ.grows_refl _ | exact ⟨RelQ.grows_refl _, rfl⟩)), ?_⟩
              simp only [Act.put, List.setIfInBounds_toArray, List.set_cons_succ, List.set_cons_zero]
              refine ⟨fun w3 hC _ => RelQ.uponG_yes rfl ((by go_simp; first | exact RelQ.grows_refl _ | exact ⟨RelQ.grows_refl _, rfl⟩)), ?_⟩
              simp only [Act.put, List.setIfInBounds_toArray, List.set_cons_succ, List.set_cons_zero]
              refine ⟨fun w3 hC _ => RelQ.uponG_yes rfl ((by go_simp; first | exact RelQ.grows_refl _ | exact ⟨RelQ.grows_refl _, rfl⟩)), ?_⟩
              simp only [Act.put, List.setIfInBounds_toArray, List.set_cons_succ, List.set_cons_zero]
              refine ⟨fun w3 hC hf => RelQ.uponG_yes rfl (by exact rel_load42 hC.loc.at_), ?_⟩
              simp only [Act.put, List.setIfInBounds_toArray, List.set_cons_succ, List.set_cons_zero]
              refine ⟨fun w3 hC hf => RelQ.uponG_yes rfl ((by go_simp; refine (isOpRight_c o hK hi _).mono ?_; rintro e w4 ⟨rfl, hb⟩; rw [hO]; first | exact ⟨rfl, hb⟩ | exact .inl ⟨_, rfl, hb, rfl⟩ | exact .inl ⟨rfl, hb⟩)), ?_⟩
              simp only [Act.put, List.setIfInBounds_toArray, List.set_cons_succ, List.set_cons_zero]
              refine ⟨fun w3 hC _ => RelQ.uponG_yes rfl ((by go_simp; first | exact RelQ.grows_refl _ | exact ⟨RelQ.grows_refl _, rfl⟩)), ?_⟩
              simp only [Act.put, List.setIfInBounds_toArray, List.set_cons_succ, List.set_cons_zero]
              refine ⟨fun w3 hC _ => RelQ.uponG_yes rfl ((by go_simp; first | exact RelQ.grows_refl _ | exact ⟨RelQ.grows_refl _, rfl⟩)), ?_⟩
              simp only [Act.put, List.setIfInBounds_toArray, List.set_cons_succ, List.set_cons_zero]
              refine ⟨fun w3 hC _ => RelQ.uponG_yes rfl ((by go_simp; first | exact RelQ.grows_refl _ | exact ⟨RelQ.grows_refl _, rfl⟩)), ?_⟩
              simp only [Act.put, List.setIfInBounds_toArray, List.set_cons_succ, List.set_cons_zero]
              refine ⟨fun w3 hC hf => RelQ.uponG_yes rfl (by exact rel_load42 hC.loc.at_), ?_⟩
              simp only [Act.put, List.setIfInBounds_toArray, List.set_cons_succ, List.set_cons_zero]
              refine ⟨fun w3 hC hf => RelQ.uponG_yes rfl ((by go_simp; refine (uses_c o hK _).mono ?_; rintro e w4 ⟨u, rfl, ho, hb⟩; first | exact ⟨_, rfl, hb, raw_own ho⟩ | exact .inl ⟨_, rfl, hb, raw_own ho⟩)), ?_⟩
              intro u
              simp only [Act.put, List.setIfInBounds_toArray, List.set_cons_succ, List.set_cons_zero]
              refine ⟨fun w3 hC _ => RelQ.uponG_yes rfl ((by go_simp; first | exact RelQ.grows_refl _ | exact ⟨RelQ.grows_refl _, rfl⟩)), ?_⟩
              simp only [Act.put, List.setIfInBounds_toArray, List.set_cons_succ, List.set_cons_zero]
              refine ⟨fun w3 hC _ => RelQ.uponG_yes rfl ((by go_simp; first | exact RelQ.grows_refl _ | exact ⟨RelQ.grows_refl _, rfl⟩)), ?_⟩
              simp only [Act.put, List.setIfInBounds_toArray, List.set_cons_succ, List.set_cons_zero]
              refine ⟨fun w3 hC _ => RelQ.uponG_yes rfl ((by go_simp; first | exact RelQ.grows_refl _ | exact ⟨RelQ.grows_refl _, rfl⟩)), ?_⟩
              simp only [Act.put, List.setIfInBounds_toArray, List.set_cons_succ, List.set_cons_zero]
              refine ⟨fun w3 hC hf => RelQ.uponG_yes rfl ((by go_simp; refine (areDefined_c ((hf 13 (by kernel_rfl)).1 rfl) (uses_len o) (hC.ops.take hk (by omega)) hk (by omega) (fun j hj => okK (hall j hj))).mono ?_; rintro e w4 ⟨rfl, hb⟩; rw [hU]; first | exact ⟨rfl, hb⟩ | exact .inl ⟨_, rfl, hb, rfl⟩ | exact .inl ⟨rfl, hb⟩)), ?_⟩
              simp only [Act.put, List.setIfInBounds_toArray, List.set_cons_succ, List.set_cons_zero]
              refine ⟨fun w3 hC _ => RelQ.uponG_yes rfl ((by go_simp; first | exact RelQ.grows_refl _ | exact ⟨RelQ.grows_refl _, rfl⟩)), ?_⟩
              simp only [Act.put, List.setIfInBounds_toArray, List.set_cons_succ, List.set_cons_zero]
              refine ⟨fun w3 hC _ => RelQ.uponG_yes rfl ((by go_simp; first | exact RelQ.grows_refl _ | exact ⟨RelQ.grows_refl _, rfl⟩)), ?_⟩
              simp only [Act.put, List.setIfInBounds_toArray, List.set_cons_succ, List.set_cons_zero]
              intro w9 hN _
              go_wp2
              go_roundw
              case rel => exact ⟨k + 1, by omega, by simp, fun j hj => if e : j = k then by rw [e]; exact hyes else hall j (by omega), hN.below⟩
              case measure => simp [intOf]; omega

        · have hno := opsB_no hkl (by rw [hokk]; rfl)
          clear hokk
          refine RelQ.wp_region_rel RelQ.Grows (fun _ _ => False) (fun _ _ _ h _ => h.elim) (AR w (.slice (some ra) l.length cap) l t o) [.inl (ptr t 0), .inl (vI o.kind), .inl ((.agg #[.string (nameV o.kind), vI (partsV o.kind)])), .inl (.bool false), .inl (.bool true), .inl (.bool true), .inl (.bool true), .inl (undef), .inl (undef), .inl (undef), .inl (.bool true), .inl (.bool true), .inl (undef), .inl (undef), .inl (undef), .inl (undef), .inl (undef), .inl (undef), .inl (undef), .inl (.bool true)] (by kernel_rfl) (by kernel_rfl) RelQ.grows_refl (fun _ _ h hb => h.grow hb) (hr.grow (below_dr _)) (by intro k hk; simp only [List.mem_cons, List.not_mem_nil, or_false] at hk; rcases hk with rfl | rfl | rfl | rfl | rfl | rfl | rfl | rfl | rfl | rfl | rfl | rfl | rfl | rfl | rfl | rfl | rfl | rfl | rfl | rfl <;> first | exact trivial | exact (fun v x y h hb => h.grow hb) | exact (fun v x y h hb => h)) ?_
          refine ⟨fun w3 hC _ => RelQ.uponG_yes rfl ((by go_simp; first | exact RelQ.grows_refl _ | exact ⟨RelQ.grows_refl _, rfl⟩)), ?_⟩
          simp only [Act.put, List.setIfInBounds_toArray, List.set_cons_succ, List.set_cons_zero]
          refine ⟨fun w3 hC _ => RelQ.uponG_yes rfl ((by have z := hC.loc.c0; go_simp; first | exact RelQ.grows_refl _ | exact ⟨RelQ.grows_refl _, rfl⟩)), ?_⟩
          simp only [Act.put, List.setIfInBounds_toArray, List.set_cons_succ, List.set_cons_zero]
          refine ⟨fun w3 hC hf => RelQ.uponG_yes rfl ((by go_simp; refine (shapeOf_c _ hK _).mono ?_; rintro e w4 ⟨rfl, hb⟩; first | exact ⟨rfl, hb⟩ | exact .inl ⟨_, rfl, hb, rfl⟩ | exact .inl ⟨rfl, hb⟩)), ?_⟩
          simp only [Act.put, List.setIfInBounds_toArray, List.set_cons_succ, List.set_cons_zero]
          refine ⟨fun w3 hC hf => RelQ.uponG_yes rfl ((by go_simp; refine (hasK_c o.kind 128 _).mono ?_; rintro e w4 ⟨rfl, hb⟩; rw [hE]; first | exact ⟨rfl, hb⟩ | exact .inl ⟨_, rfl, hb, rfl⟩ | exact .inl ⟨rfl, hb⟩)), ?_⟩
          simp only [Act.put, List.setIfInBounds_toArray, List.set_cons_succ, List.set_cons_zero]
          refine ⟨fun w3 hC _ => RelQ.uponG_yes rfl ((by go_simp; first | exact RelQ.grows_refl _ | exact ⟨RelQ.grows_refl _, rfl⟩)), ?_⟩
          simp only [Act.put, List.setIfInBounds_toArray, List.set_cons_succ, List.set_cons_zero]
          refine ⟨fun w3 hC _ => RelQ.uponG_yes rfl ((by go_simp; first | exact RelQ.grows_refl _ | exact ⟨RelQ.grows_refl _, rfl⟩)), ?_⟩
          simp only [Act.put, List.setIfInBounds_toArray, List.set_cons_succ, List.set_cons_zero]
          refine ⟨fun w3 hC _ => RelQ.uponG_yes rfl ((by go_simp; first | exact RelQ.grows_refl _ | exact ⟨RelQ.grows_refl _, rfl⟩)), ?_⟩
          simp only [Act.put, List.setIfInBounds_toArray, List.set_cons_succ, List.set_cons_zero]
          refine ⟨fun w3 hC _ => RelQ.uponG_no rfl rfl, ?_⟩
          simp only [Act.put, List.setIfInBounds_toArray, List.set_cons_succ, List.set_cons_zero]
          refine ⟨fun w3 hC _ => RelQ.uponG_no rfl rfl, ?_⟩
          simp only [Act.put, List.setIfInBounds_toArray, List.set_cons_succ, List.set_cons_zero]
          refine ⟨fun w3 hC _ => RelQ.uponG_no rfl rfl, ?_⟩
          simp only [Act.put, List.setIfInBounds_toArray, List.set_cons_succ, List.set_cons_zero]
          refine ⟨fun w3 hC _ => RelQ.uponG_yes rfl ((by go_simp; first | exact RelQ.grows_refl _ | exact ⟨RelQ.grows_refl _, rfl⟩)), ?_⟩
          simp only [Act.put, List.setIfInBounds_toArray, List.set_cons_succ, List.set_cons_zero]
          refine ⟨fun w3 hC _ => RelQ.uponG_yes rfl ((by go_simp; first | exact RelQ.grows_refl _ | exact ⟨RelQ.grows_refl _, rfl⟩)), ?_⟩
          simp only [Act.put, List.setIfInBounds_toArray, List.set_cons_succ, List.set_cons_zero]
          refine ⟨fun w3 hC _ => RelQ.uponG_no rfl rfl, ?_⟩
          simp only [Act.put, List.setIfInBounds_toArray, List.set_cons_succ, List.set_cons_zero]
          refine ⟨fun w3 hC _ => RelQ.uponG_no rfl rfl, ?_⟩
          simp only [Act.put, List.setIfInBounds_toArray, List.set_cons_succ, List.set_cons_zero]
          refine ⟨fun w3 hC _ => RelQ.uponG_no rfl rfl, ?_⟩
          simp only [Act.put, List.setIfInBounds_toArray, List.set_cons_succ, List.set_cons_zero]
          refine ⟨fun w3 hC _ => RelQ.uponG_no rfl rfl, ?_⟩
          simp only [Act.put, List.setIfInBounds_toArray, List.set_cons_succ, List.set_cons_zero]
          refine ⟨fun w3 hC _ => RelQ.uponG_no rfl rfl, ?_⟩
          simp only [Act.put, List.setIfInBounds_toArray, List.set_cons_succ, List.set_cons_zero]
          refine ⟨fun w3 hC _ => RelQ.uponG_no rfl rfl, ?_⟩
          simp only [Act.put, List.setIfInBounds_toArray, List.set_cons_succ, List.set_cons_zero]
          refine ⟨fun w3 hC _ => RelQ.uponG_no rfl rfl, ?_⟩
          simp only [Act.put, List.setIfInBounds_toArray, List.set_cons_succ, List.set_cons_zero]
          refine ⟨fun w3 hC _ => RelQ.uponG_yes rfl ((by go_simp; first | exact RelQ.grows_refl _ | exact ⟨RelQ.grows_refl _, rfl⟩)), ?_⟩
          simp only [Act.put, List.setIfInBounds_toArray, List.set_cons_succ, List.set_cons_zero]
          intro w9 hN _
          go_wp2
          go_ret
          first | exact ⟨.inl (r_bool hno.symm), hN.below⟩ | exact ⟨.inl rfl, hN.below⟩ | (rw [hno]; exact ⟨.inl rfl, hN.below⟩)

        · have hno := opsB_no hkl (by rw [hokk]; rfl)
          clear hokk
          refine RelQ.wp_region_rel RelQ.Grows (fun _ _ => False) (fun _ _ _ h _ => h.elim) (AR w (.slice (some ra) l.length cap) l t o) [.inl (ptr t 0), .inl (vI o.kind), .inl ((.agg #[.string (nameV o.kind), vI (partsV o.kind)])), .inl (.bool true), .inl (.bool false), .inl (.bool true), .inl (.bool true), .inl (undef), .inl (undef), .inl (undef), .inl (.bool true), .inl (.bool true), .inl (undef), .inl (undef), .inl (undef), .inl (undef), .inl (undef), .inl (undef), .inl (undef), .inl (.bool true)] (by kernel_rfl) (by kernel_rfl) RelQ.grows_refl (fun _ _ h hb => h.grow hb) (hr.grow (below_dr _)) (by intro k hk; simp only [List.mem_cons, List.not_mem_nil, or_false] at hk; rcases hk with rfl | rfl | rfl | rfl | rfl | rfl | rfl | rfl | rfl | rfl | rfl | rfl | rfl | rfl | rfl | rfl | rfl | rfl | rfl | rfl <;> first | exact trivial | exact (fun v x y h hb => h.grow hb) | exact (fun v x y h hb => h)) ?_
          refine ⟨fun w3 hC _ => RelQ.uponG_yes rfl ((by go_simp; first | exact RelQ.grows_refl _ | exact ⟨RelQ.grows_refl _, rfl⟩)), ?_⟩
          simp only [Act.put, List.setIfInBounds_toArray, List.set_cons_succ, List.set_cons_zero]
          refine ⟨fun w3 hC _ => RelQ.uponG_yes rfl ((by have z := hC.loc.c0; go_simp; first | exact RelQ.grows_refl _ | exact ⟨RelQ.grows_refl _, rfl⟩)), ?_⟩
          simp only [Act.put, List.setIfInBounds_toArray, List.set_cons_succ, List.set_cons_zero]
          refine ⟨fun w3 hC hf => RelQ.uponG_yes rfl ((by go_simp; refine (shapeOf_c _ hK _).mono ?_; rintro e w4 ⟨rfl, hb⟩; first | exact ⟨rfl, hb⟩ | exact .inl ⟨_, rfl, hb, rfl⟩ | exact .inl ⟨rfl, hb⟩)), ?_⟩
          simp only [Act.put, List.setIfInBounds_toArray, List.set_cons_succ, List.set_cons_zero]
          refine ⟨fun w3 hC hf => RelQ.uponG_yes rfl ((by go_simp; refine (hasK_c o.kind 128 _).mono ?_; rintro e w4 ⟨rfl, hb⟩; rw [hE]; first | exact ⟨rfl, hb⟩ | exact .inl ⟨_, rfl, hb, rfl⟩ | exact .inl ⟨rfl, hb⟩)), ?_⟩
          simp only [Act.put, List.setIfInBounds_toArray, List.set_cons_succ, List.set_cons_zero]
          refine ⟨fun w3 hC _ => RelQ.uponG_yes rfl ((by go_simp; first | exact RelQ.grows_refl _ | exact ⟨RelQ.grows_refl _, rfl⟩)), ?_⟩
          simp only [Act.put, List.setIfInBounds_toArray, List.set_cons_succ, List.set_cons_zero]
          refine ⟨fun w3 hC _ => RelQ.uponG_yes rfl ((by go_simp; first | exact RelQ.grows_refl _ | exact ⟨RelQ.grows_refl _, rfl⟩)), ?_⟩
          simp only [Act.put, List.setIfInBounds_toArray, List.set_cons_succ, List.set_cons_zero]
          refine ⟨fun w3 hC _ => RelQ.uponG_yes rfl ((by go_simp; first | exact RelQ.grows_refl _ | exact ⟨RelQ.grows_refl _, rfl⟩)), ?_⟩
          simp only [Act.put, List.setIfInBounds_toArray, List.set_cons_succ, List.set_cons_zero]
          refine ⟨fun w3 hC _ => RelQ.uponG_no rfl rfl, ?_⟩
          simp only [Act.put, List.setIfInBounds_toArray, List.set_cons_succ, List.set_cons_zero]
          refine ⟨fun w3 hC _ => RelQ.uponG_no rfl rfl, ?_⟩
          simp only [Act.put, List.setIfInBounds_toArray, List.set_cons_succ, List.set_cons_zero]
          refine ⟨fun w3 hC _ => RelQ.uponG_no rfl rfl, ?_⟩
          simp only [Act.put, List.setIfInBounds_toArray, List.set_cons_succ, List.set_cons_zero]
          refine ⟨fun w3 hC _ => RelQ.uponG_yes rfl ((by go_simp; first | exact RelQ.grows_refl _ | exact ⟨RelQ.grows_refl _, rfl⟩)), ?_⟩
          simp only [Act.put, List.setIfInBounds_toArray, List.set_cons_succ, List.set_cons_zero]
          refine ⟨fun w3 hC _ => RelQ.uponG_yes rfl ((by go_simp; first | exact RelQ.grows_refl _ | exact ⟨RelQ.grows_refl _, rfl⟩)), ?_⟩
          simp only [Act.put, List.setIfInBounds_toArray, List.set_cons_succ, List.set_cons_zero]
          refine ⟨fun w3 hC _ => RelQ.uponG_no rfl rfl, ?_⟩
          simp only [Act.put, List.setIfInBounds_toArray, List.set_cons_succ, List.set_cons_zero]
          refine ⟨fun w3 hC _ => RelQ.uponG_no rfl rfl, ?_⟩
          simp only [Act.put, List.setIfInBounds_toArray, List.set_cons_succ, List.set_cons_zero]
          refine ⟨fun w3 hC _ => RelQ.uponG_no rfl rfl, ?_⟩
          simp only [Act.put, List.setIfInBounds_toArray, List.set_cons_succ, List.set_cons_zero]
          refine ⟨fun w3 hC _ => RelQ.uponG_no rfl rfl, ?_⟩
          simp only [Act.put, List.setIfInBounds_toArray, List.set_cons_succ, List.set_cons_zero]
          refine ⟨fun w3 hC _ => RelQ.uponG_no rfl rfl, ?_⟩
          simp only [Act.put, List.setIfInBounds_toArray, List.set_cons_succ, List.set_cons_zero]
          refine ⟨fun w3 hC _ => RelQ.uponG_no rfl rfl, ?_⟩
          simp only [Act.put, List.setIfInBounds_toArray, List.set_cons_succ, List.set_cons_zero]
          refine ⟨fun w3 hC _ => RelQ.uponG_no rfl rfl, ?_⟩
          simp only [Act.put, List.setIfInBounds_toArray, List.set_cons_succ, List.set_cons_zero]
          refine ⟨fun w3 hC _ => RelQ.uponG_yes rfl ((by go_simp; first | exact RelQ.grows_refl _ | exact ⟨RelQ.grows_refl _, rfl⟩)), ?_⟩
          simp only [Act.put, List.setIfInBounds_toArray, List.set_cons_succ, List.set_cons_zero]
          intro w9 hN _
          go_wp2
          go_ret
          first | exact ⟨.inl (r_bool hno.symm), hN.below⟩ | exact ⟨.inl rfl, hN.below⟩ | (rw [hno]; exact ⟨.inl rfl, hN.below⟩)

        · cases hO : opB o with
          | false =>
            have hno := opsB_no hkl (by rw [hokk, hO]; rfl)
            clear hokk
            refine RelQ.wp_region_rel RelQ.Grows (fun _ _ => False) (fun _ _ _ h _ => h.elim) (AR w (.slice (some ra) l.length cap) l t o) [.inl (ptr t 0), .inl (vI o.kind), .inl ((.agg #[.string (nameV o.kind), vI (partsV o.kind)])), .inl (.bool true), .inl (.bool true), .inl (.bool false), .inl (.bool false), .inl (opV o), .inl (.bool false), .inl (.bool true), .inl (.bool true), .inl (.bool true), .inl (undef), .inl (undef), .inl (undef), .inl (undef), .inl (undef), .inl (undef), .inl (undef), .inl (.bool true)] (by kernel_rfl) (by kernel_rfl) RelQ.grows_refl (fun _ _ h hb => h.grow hb) (hr.grow (below_dr _)) (by intro k hk; simp only [List.mem_cons, List.not_mem_nil, or_false] at hk; rcases hk with rfl | rfl | rfl | rfl | rfl | rfl | rfl | rfl | rfl | rfl | rfl | rfl | rfl | rfl | rfl | rfl | rfl | rfl | rfl | rfl <;> first | exact trivial | exact (fun v x y h hb => h.grow hb) | exact (fun v x y h hb => h)) ?_
            refine ⟨fun w3 hC _ => RelQ.uponG_yes rfl ((by go_simp; first | exact RelQ.grows_refl _ | exact ⟨RelQ.grows_refl _, rfl⟩)), ?_⟩
            simp only [Act.put, List.setIfInBounds_toArray, List.set_cons_succ, List.set_cons_zero]
            refine ⟨fun w3 hC _ => RelQ.uponG_yes rfl ((by have z := hC.loc.c0; go_simp; first | exact RelQ.grows_refl _ | exact ⟨RelQ.grows_refl _, rfl⟩)), ?_⟩
            simp only [Act.put, List.setIfInBounds_toArray, List.set_cons_succ, List.set_cons_zero]
            refine ⟨fun w3 hC hf => RelQ.uponG_yes rfl ((by go_simp; refine (shapeOf_c _ hK _).mono ?_; rintro e w4 ⟨rfl, hb⟩; first | exact ⟨rfl, hb⟩ | exact .inl ⟨_, rfl, hb, rfl⟩ | exact .inl ⟨rfl, hb⟩)), ?_⟩
            simp only [Act.put, List.setIfInBounds_toArray, List.set_cons_succ, List.set_cons_zero]
            refine ⟨fun w3 hC hf => RelQ.uponG_yes rfl ((by go_simp; refine (hasK_c o.kind 128 _).mono ?_; rintro e w4 ⟨rfl, hb⟩; rw [hE]; first | exact ⟨rfl, hb⟩ | exact .inl ⟨_, rfl, hb, rfl⟩ | exact .inl ⟨rfl, hb⟩)), ?_⟩
            simp only [Act.put, List.setIfInBounds_toArray, List.set_cons_succ, List.set_cons_zero]
            refine ⟨fun w3 hC _ => RelQ.uponG_yes rfl ((by go_simp; first | exact RelQ.grows_refl _ | exact ⟨RelQ.grows_refl _, rfl⟩)), ?_⟩
            simp only [Act.put, List.setIfInBounds_toArray, List.set_cons_succ, List.set_cons_zero]
            refine ⟨fun w3 hC _ => RelQ.uponG_yes rfl ((by go_simp; first | exact RelQ.grows_refl _ | exact ⟨RelQ.grows_refl _, rfl⟩)), ?_⟩
            simp only [Act.put, List.setIfInBounds_toArray, List.set_cons_succ, List.set_cons_zero]
            refine ⟨fun w3 hC _ => RelQ.uponG_yes rfl ((by go_simp; first | exact RelQ.grows_refl _ | exact ⟨RelQ.grows_refl _, rfl⟩)), ?_⟩
            simp only [Act.put, List.setIfInBounds_toArray, List.set_cons_succ, List.set_cons_zero]
            refine ⟨fun w3 hC hf => RelQ.uponG_yes rfl (by exact rel_load42 hC.loc.at_), ?_⟩
            simp only [Act.put, List.setIfInBounds_toArray, List.set_cons_succ, List.set_cons_zero]
            refine ⟨fun w3 hC hf => RelQ.uponG_yes rfl ((by go_simp; refine (isOpRight_c o hK hi _).mono ?_; rintro e w4 ⟨rfl, hb⟩; rw [hO]; first | exact ⟨rfl, hb⟩ | exact .inl ⟨_, rfl, hb, rfl⟩ | exact .inl ⟨rfl, hb⟩)), ?_⟩
            simp only [Act.put, List.setIfInBounds_toArray, List.set_cons_succ, List.set_cons_zero]
            refine ⟨fun w3 hC _ => RelQ.uponG_yes rfl ((by go_simp; first | exact RelQ.grows_refl _ | exact ⟨RelQ.grows_refl _, rfl⟩)), ?_⟩
            simp only [Act.put, List.setIfInBounds_toArray, List.set_cons_succ, List.set_cons_zero]
            refine ⟨fun w3 hC _ => RelQ.uponG_yes rfl ((by go_simp; first | exact RelQ.grows_refl _ | exact ⟨RelQ.grows_refl _, rfl⟩)), ?_⟩
            simp only [Act.put, List.setIfInBounds_toArray, List.set_cons_succ, List.set_cons_zero]
            refine ⟨fun w3 hC _ => RelQ.uponG_yes rfl ((by go_simp; first | exact RelQ.grows_refl _ | exact ⟨RelQ.grows_refl _, rfl⟩)), ?_⟩
            simp only [Act.put, List.setIfInBounds_toArray, List.set_cons_succ, List.set_cons_zero]
            refine ⟨fun w3 hC _ => RelQ.uponG_no rfl rfl, ?_⟩
            simp only [Act.put, List.setIfInBounds_toArray, List.set_cons_succ, List.set_cons_zero]
            refine ⟨fun w3 hC _ => RelQ.uponG_no rfl rfl, ?_⟩
            simp only [Act.put, List.setIfInBounds_toArray, List.set_cons_succ, List.set_cons_zero]
            refine ⟨fun w3 hC _ => RelQ.uponG_no rfl rfl, ?_⟩
            simp only [Act.put, List.setIfInBounds_toArray, List.set_cons_succ, List.set_cons_zero]
            refine ⟨fun w3 hC _ => RelQ.uponG_no rfl rfl, ?_⟩
            simp only [Act.put, List.setIfInBounds_toArray, List.set_cons_succ, List.set_cons_zero]
            refine ⟨fun w3 hC _ => RelQ.uponG_no rfl rfl, ?_⟩
            simp only [Act.put, List.setIfInBounds_toArray, List.set_cons_succ, List.set_cons_zero]
            refine ⟨fun w3 hC _ => RelQ.uponG_no rfl rfl, ?_⟩
            simp only [Act.put, List.setIfInBounds_toArray, List.set_cons_succ, List.set_cons_zero]
            refine ⟨fun w3 hC _ => RelQ.uponG_no rfl rfl, ?_⟩
            simp only [Act.put, List.setIfInBounds_toArray, List.set_cons_succ, List.set_cons_zero]
            refine ⟨fun w3 hC _ => RelQ.uponG_yes rfl ((by go_simp; first | exact RelQ.grows_refl _ | exact ⟨RelQ.grows_refl _, rfl⟩)), ?_⟩
            simp only [Act.put, List.setIfInBounds_toArray, List.set_cons_succ, List.set_cons_zero]
            intro w9 hN _
            go_wp2
            go_ret
            first | exact ⟨.inl (r_bool hno.symm), hN.below⟩ | exact ⟨.inl rfl, hN.below⟩ | (rw [hno]; exact ⟨.inl rfl, hN.below⟩)
          | true =>
            cases hU : (usesL o).all (defB l k) with
            | false =>
              have hno := opsB_no hkl (by rw [hokk, hO, hU]; rfl)
              clear hokk
              refine RelQ.wp_region_rel RelQ.Grows (fun _ _ => False) (fun _ _ _ h _ => h.elim) (AR w (.slice (some ra) l.length cap) l t o) [.inl (ptr t 0), .inl (vI o.kind), .inl ((.agg #[.string (nameV o.kind), vI (partsV o.kind)])), .inl (.bool true), .inl (.bool true), .inl (.bool false), .inl (.bool false), .inl (opV o), .inl (.bool true), .inl (.bool false), .inl (.bool false), .inl (.bool false), .inl (opV o), .inr (fun u x => RawI x u (usesL o)), .inl (.slice (some ra) l.length cap), .inl (vI k), .inl (.slice (some ra) k cap), .inl (.bool false), .inl (.bool true), .inl (.bool true)] (by kernel_rfl) (by kernel_rfl) RelQ.grows_refl (fun _ _ h hb => h.grow hb) (hr.grow (below_dr _)) (by intro k hk; simp only [List.mem_cons, List.not_mem_nil, or_false] at hk; rcases hk with rfl | rfl | rfl | rfl | rfl | rfl | rfl | rfl | rfl | rfl | rfl | rfl | rfl | rfl | rfl | rfl | rfl | rfl | rfl | rfl <;> first | exact trivial | exact (fun v x y h hb => h.grow hb) | exact (fun v x y h hb => h)) ?_
              refine ⟨fun w3 hC _ => RelQ.uponG_yes rfl ((by go_simp; first | exact RelQ.grows_refl _ | exact ⟨RelQ.grows_refl _, rfl⟩)), ?_⟩
              simp only [Act.put, List.setIfInBounds_toArray, List.set_cons_succ, List.set_cons_zero]
              refine ⟨fun w3 hC _ => RelQ.uponG_yes rfl ((by have z := hC.loc.c0; go_simp; first | exact RelQ.grows_refl _ | exact ⟨RelQ.grows_refl _, rfl⟩)), ?_⟩
              simp only [Act.put, List.setIfInBounds_toArray, List.set_cons_succ, List.set_cons_zero]
              refine ⟨fun w3 hC hf => RelQ.uponG_yes rfl ((by go_simp; refine (shapeOf_c _ hK _).mono ?_; rintro e w4 ⟨rfl, hb⟩; first | exact ⟨rfl, hb⟩ | exact .inl ⟨_, rfl, hb, rfl⟩ | exact .inl ⟨rfl, hb⟩)), ?_⟩
              simp only [Act.put, List.setIfInBounds_toArray, List.set_cons_succ, List.set_cons_zero]
              refine ⟨fun w3 hC hf => RelQ.uponG_yes rfl ((by go_simp; refine (hasK_c o.kind 128 _).mono ?_; rintro e w4 ⟨rfl, hb⟩; rw [hE]; first | exact ⟨rfl, hb⟩ | exact .inl ⟨_, rfl, hb, rfl⟩ | exact .inl ⟨rfl, hb⟩)), ?_⟩
              simp only [Act.put, List.setIfInBounds_toArray, List.set_cons_succ, List.set_cons_zero]
              refine ⟨fun w3 hC _ => RelQ.uponG_yes rfl ((by go_simp; first | exact RelQ.grows_refl _ | exact ⟨RelQ.grows_refl _, rfl⟩)), ?_⟩
              simp only [Act.put, List.setIfInBounds_toArray, List.set_cons_succ, List.set_cons_zero]
              refine ⟨fun w3 hC _ => RelQ.uponG_yes rfl ((by go_simp; first | exact RelQ.grows_refl _ | exact ⟨RelQ.grows_refl _, rfl⟩)), ?_⟩
              simp only [Act.put, List.setIfInBounds_toArray, List.set_cons_succ, List.set_cons_zero]
              refine ⟨fun w3 hC _ => RelQ.uponG_yes rfl ((by go_simp; first | exact RelQ.grows_refl _ | exact ⟨RelQ.grows_refl _, rfl⟩)), ?_⟩
              simp only [Act.put, List.setIfInBounds_toArray, List.set_cons_succ, List.set_cons_zero]
              refine ⟨fun w3 hC hf => RelQ.uponG_yes rfl (by exact rel_load42 hC.loc.at_), ?_⟩
              simp only [Act.put, List.setIfInBounds_toArray, List.set_cons_succ, List.set_cons_zero]
              refine ⟨fun w3 hC hf => RelQ.uponG_yes rfl ((by go_simp; refine (isOpRight_c o hK hi _).mono ?_; rintro e w4 ⟨rfl, hb⟩; rw [hO]; first | exact ⟨rfl, hb⟩ | exact .inl ⟨_, rfl, hb, rfl⟩ | exact .inl ⟨rfl, hb⟩)), ?_⟩
              simp only [Act.put, List.setIfInBounds_toArray, List.set_cons_succ, List.set_cons_zero]
              refine ⟨fun w3 hC _ => RelQ.uponG_yes rfl ((by go_simp; first | exact RelQ.grows_refl _ | exact ⟨RelQ.grows_refl _, rfl⟩)), ?_⟩
              simp only [Act.put, List.setIfInBounds_toArray, List.set_cons_succ, List.set_cons_zero]
              refine ⟨fun w3 hC _ => RelQ.uponG_yes rfl ((by go_simp; first | exact RelQ.grows_refl _ | exact ⟨RelQ.grows_refl _, rfl⟩)), ?_⟩
              simp only [Act.put, List.setIfInBounds_toArray, List.set_cons_succ, List.set_cons_zero]
              refine ⟨fun w3 hC _ => RelQ.uponG_yes rfl ((by go_simp; first | exact RelQ.grows_refl _ | exact ⟨RelQ.grows_refl _, rfl⟩)), ?_⟩
              simp only [Act.put, List.setIfInBounds_toArray, List.set_cons_succ, List.set_cons_zero]
              refine ⟨fun w3 hC hf => RelQ.uponG_yes rfl (by exact rel_load42 hC.loc.at_), ?_⟩
              simp only [Act.put, List.setIfInBounds_toArray, List.set_cons_succ, List.set_cons_zero]
              refine ⟨fun w3 hC hf => RelQ.uponG_yes rfl ((by go_simp; refine (uses_c o hK _).mono ?_; rintro e w4 ⟨u, rfl, ho, hb⟩; first | exact ⟨_, rfl, hb, raw_own ho⟩ | exact .inl ⟨_, rfl, hb, raw_own ho⟩)), ?_⟩
              intro u
              simp only [Act.put, List.setIfInBounds_toArray, List.set_cons_succ, List.set_cons_zero]
              refine ⟨fun w3 hC _ => RelQ.uponG_yes rfl ((by go_simp; first | exact RelQ.grows_refl _ | exact ⟨RelQ.grows_refl _, rfl⟩)), ?_⟩
              simp only [Act.put, List.setIfInBounds_toArray, List.set_cons_succ, List.set_cons_zero]
              refine ⟨fun w3 hC _ => RelQ.uponG_yes rfl ((by go_simp; first | exact RelQ.grows_refl _ | exact ⟨RelQ.grows_refl _, rfl⟩)), ?_⟩
              simp only [Act.put, List.setIfInBounds_toArray, List.set_cons_succ, List.set_cons_zero]
              refine ⟨fun w3 hC _ => RelQ.uponG_yes rfl ((by go_simp; first | exact RelQ.grows_refl _ | exact ⟨RelQ.grows_refl _, rfl⟩)), ?_⟩
              simp only [Act.put, List.setIfInBounds_toArray, List.set_cons_succ, List.set_cons_zero]
              refine ⟨fun w3 hC hf => RelQ.uponG_yes rfl ((by go_simp; refine (areDefined_c ((hf 13 (by kernel_rfl)).1 rfl) (uses_len o) (hC.ops.take hk (by omega)) hk (by omega) (fun j hj => okK (hall j hj))).mono ?_; rintro e w4 ⟨rfl, hb⟩; rw [hU]; first | exact ⟨rfl, hb⟩ | exact .inl ⟨_, rfl, hb, rfl⟩ | exact .inl ⟨rfl, hb⟩)), ?_⟩
              simp only [Act.put, List.setIfInBounds_toArray, List.set_cons_succ, List.set_cons_zero]
              refine ⟨fun w3 hC _ => RelQ.uponG_yes rfl ((by go_simp; first | exact RelQ.grows_refl _ | exact ⟨RelQ.grows_refl _, rfl⟩)), ?_⟩
              simp only [Act.put, List.setIfInBounds_toArray, List.set_cons_succ, List.set_cons_zero]
              refine ⟨fun w3 hC _ => RelQ.uponG_yes rfl ((by go_simp; first | exact RelQ.grows_refl _ | exact ⟨RelQ.grows_refl _, rfl⟩)), ?_⟩
              simp only [Act.put, List.setIfInBounds_toArray, List.set_cons_succ, List.set_cons_zero]
              intro w9 hN _
              go_wp2
              go_ret
              first | exact ⟨.inl (r_bool hno.symm), hN.below⟩ | exact ⟨.inl rfl, hN.below⟩ | (rw [hno]; exact ⟨.inl rfl, hN.below⟩)
            | true =>
              have hyes : okAt l k = true := by rw [hokk, hO, hU]; rfl
              clear hokk
              refine RelQ.wp_region_rel RelQ.Grows (fun _ _ => False) (fun _ _ _ h _ => h.elim) (AR w (.slice (some ra) l.length cap) l t o) [.inl (ptr t 0), .inl (vI o.kind), .inl ((.agg #[.string (nameV o.kind), vI (partsV o.kind)])), .inl (.bool true), .inl (.bool true), .inl (.bool false), .inl (.bool false), .inl (opV o), .inl (.bool true), .inl (.bool false), .inl (.bool false), .inl (.bool false), .inl (opV o), .inr (fun u x => RawI x u (usesL o)), .inl (.slice (some ra) l.length cap), .inl (vI k), .inl (.slice (some ra) k cap), .inl (.bool true), .inl (.bool false), .inl (.bool false)] (by kernel_rfl) (by kernel_rfl) RelQ.grows_refl (fun _ _ h hb => h.grow hb) (hr.grow (below_dr _)) (by intro k hk; simp only [List.mem_cons, List.not_mem_nil, or_false] at hk; rcases hk with rfl | rfl | rfl | rfl | rfl | rfl | rfl | rfl | rfl | rfl | rfl | rfl | rfl | rfl | rfl | rfl | rfl | rfl | rfl | rfl <;> first | exact trivial | exact (fun v x y h hb => h.grow hb) | exact (fun v x y h hb => h)) ?_
              refine ⟨fun w3 hC _ => RelQ.uponG_yes rfl ((by go_simp; first | exact RelQ.grows_refl _ | exact ⟨RelQ.grows_refl _, rfl⟩)), ?_⟩
              simp only [Act.put, List.setIfInBounds_toArray, List.set_cons_succ, List.set_cons_zero]
              refine ⟨fun w3 hC _ => RelQ.uponG_yes rfl ((by have z := hC.loc.c0; go_simp; first | exact RelQ.grows_refl _ | exact ⟨RelQ.grows_refl _, rfl⟩)), ?_⟩
              simp only [Act.put, List.setIfInBounds_toArray, List.set_cons_succ, List.set_cons_zero]
              refine ⟨fun w3 hC hf => RelQ.uponG_yes rfl ((by go_simp; refine (shapeOf_c _ hK _).mono ?_; rintro e w4 ⟨rfl, hb⟩; first | exact ⟨rfl, hb⟩ | exact .inl ⟨_, rfl, hb, rfl⟩ | exact .inl ⟨rfl, hb⟩)), ?_⟩
              simp only [Act.put, List.setIfInBounds_toArray, List.set_cons_succ, List.set_cons_zero]
              refine ⟨fun w3 hC hf => RelQ.uponG_yes rfl ((by go_simp; refine (hasK_c o.kind 128 _).mono ?_; rintro e w4 ⟨rfl, hb⟩; rw [hE]; first | exact ⟨rfl, hb⟩ | exact .inl ⟨_, rfl, hb, rfl⟩ | exact .inl ⟨rfl, hb⟩)), ?_⟩
              simp only [Act.put, List.setIfInBounds_toArray, List.set_cons_succ, List.set_cons_zero]
              refine ⟨fun w3 hC _ => RelQ.uponG_yes rfl ((by go_simp; first | exact RelQ.grows_refl _ | exact ⟨RelQ.grows_refl _, rfl⟩)), ?_⟩
              simp only [Act.put, List.setIfInBounds_toArray, List.set_cons_succ, List.set_cons_zero]
              refine ⟨fun w3 hC _ => RelQ.uponG_yes rfl ((by go_simp; first | exact RelQ.grows_refl _ | exact ⟨RelQ.grows_refl _, rfl⟩)), ?_⟩
              simp only [Act.put, List.setIfInBounds_toArray, List.set_cons_succ, List.set_cons_zero]
              refine ⟨fun w3 hC _ => RelQ.uponG_yes rfl ((by go_simp; first | exact RelQ.grows_refl _ | exact ⟨RelQ.grows_refl _, rfl⟩)), ?_⟩
              simp only [Act.put, List.setIfInBounds_toArray, List.set_cons_succ, List.set_cons_zero]
              refine ⟨fun w3 hC hf => RelQ.uponG_yes rfl (by exact rel_load42 hC.loc.at_), ?_⟩
              simp only [Act.put, List.setIfInBounds_toArray, List.set_cons_succ, List.set_cons_zero]
              refine ⟨fun w3 hC hf => RelQ.uponG_yes rfl ((by go_simp; refine (isOpRight_c o hK hi _).mono ?_; rintro e w4 ⟨rfl, hb⟩; rw [hO]; first | exact ⟨rfl, hb⟩ | exact .inl ⟨_, rfl, hb, rfl⟩ | exact .inl ⟨rfl, hb⟩)), ?_⟩
              simp only [Act.put, List.setIfInBounds_toArray, List.set_cons_succ, List.set_cons_zero]
              refine ⟨fun w3 hC _ => RelQ.uponG_yes rfl ((by go_simp; first | exact RelQ.grows_refl _ | exact ⟨RelQ.grows_refl _, rfl⟩)), ?_⟩
              simp only [Act.put, List.setIfInBounds_toArray, List.set_cons_succ, List.set_cons_zero]
              refine ⟨fun w3 hC _ => RelQ.uponG_yes rfl ((by go_simp; first | exact RelQ.grows_refl _ | exact ⟨RelQ.grows_refl _, rfl⟩)), ?_⟩
              simp only [Act.put, List.setIfInBounds_toArray, List.set_cons_succ, List.set_cons_zero]
              refine ⟨fun w3 hC _ => RelQ.uponG_yes rfl ((by go_simp; first | exact RelQ.grows_refl _ | exact ⟨RelQ.grows_refl _, rfl⟩)), ?_⟩
              simp only [Act.put, List.setIfInBounds_toArray, List.set_cons_succ, List.set_cons_zero]
              refine ⟨fun w3 hC hf => RelQ.uponG_yes rfl (by exact rel_load42 hC.loc.at_), ?_⟩
              simp only [Act.put, List.setIfInBounds_toArray, List.set_cons_succ, List.set_cons_zero]
              refine ⟨fun w3 hC hf => RelQ.uponG_yes rfl ((by go_simp; refine (uses_c o hK _).mono ?_; rintro e w4 ⟨u, rfl, ho, hb⟩; first | exact ⟨_, rfl, hb, raw_own ho⟩ | exact .inl ⟨_, rfl, hb, raw_own ho⟩)), ?_⟩
              intro u
              simp only [Act.put, List.setIfInBounds_toArray, List.set_cons_succ, List.set_cons_zero]
              refine ⟨fun w3 hC _ => RelQ.uponG_yes rfl ((by go_simp; first | exact RelQ.grows_refl _ | exact ⟨RelQ.grows_refl _, rfl⟩)), ?_⟩
              simp only [Act.put, List.setIfInBounds_toArray, List.set_cons_succ, List.set_cons_zero]
              refine ⟨fun w3 hC _ => RelQ.uponG_yes rfl ((by go_simp; first | exact RelQ.grows_refl _ | exact ⟨RelQ.grows_refl _, rfl⟩)), ?_⟩
              simp only [Act.put, List.setIfInBounds_toArray, List.set_cons_succ, List.set_cons_zero]
              refine ⟨fun w3 hC _ => RelQ.uponG_yes rfl ((by go_simp; first | exact RelQ.grows_refl _ | exact ⟨RelQ.grows_refl _, rfl⟩)), ?_⟩
              simp only [Act.put, List.setIfInBounds_toArray, List.set_cons_succ, List.set_cons_zero]
              refine ⟨fun w3 hC hf => RelQ.uponG_yes rfl ((by go_simp; refine (areDefined_c ((hf 13 (by kernel_rfl)).1 rfl) (uses_len o) (hC.ops.take hk (by omega)) hk (by omega) (fun j hj => okK (hall j hj))).mono ?_; rintro e w4 ⟨rfl, hb⟩; rw [hU]; first | exact ⟨rfl, hb⟩ | exact .inl ⟨_, rfl, hb, rfl⟩ | exact .inl ⟨rfl, hb⟩)), ?_⟩
              simp only [Act.put, List.setIfInBounds_toArray, List.set_cons_succ, List.set_cons_zero]
              refine ⟨fun w3 hC _ => RelQ.uponG_yes rfl ((by go_simp; first | exact RelQ.grows_refl _ | exact ⟨RelQ.grows_refl _, rfl⟩)), ?_⟩
              simp only [Act.put, List.setIfInBounds_toArray, List.set_cons_succ, List.set_cons_zero]
              refine ⟨fun w3 hC _ => RelQ.uponG_yes rfl ((by go_simp; first | exact RelQ.grows_refl _ | exact ⟨RelQ.grows_refl _, rfl⟩)), ?_⟩
              simp only [Act.put, List.setIfInBounds_toArray, List.set_cons_succ, List.set_cons_zero]
              intro w9 hN _
              go_wp2
              go_roundw
              case rel => exact ⟨k + 1, by omega, by simp, fun j hj => if e : j = k then by rw [e]; exact hyes else hall j (by omega), hN.below⟩
              case measure => simp [intOf]; omega

    · have hke : k = l.length := by omega
      have hyes : opsB l = true := opsB_yes (by rw [← hke]; exact hall)
      go_wp2
      go_ret
      first | exact ⟨.inl (r_bool hyes.symm), hB⟩ | exact ⟨.inl rfl, hB⟩ | exact ⟨rfl, hB⟩ | (rw [hyes]; exact ⟨.inl rfl, hB⟩)
end Go.Proofs.Ytilbnjldfgofmaa
