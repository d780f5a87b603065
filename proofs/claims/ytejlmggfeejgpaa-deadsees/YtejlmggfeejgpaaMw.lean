/- Both runs in memory. -/
import Derived.Test.YtejlmggfeejgpaaXq
import Derived.Test.YtejlmggfeejgpaaXo
import Derived.Test.YtejlmggfeejgpaaGa
namespace Go.Proofs.Ytejlmggfeejgpaa
open Go.RowKit
set_option linter.unusedVariables false
set_option linter.unusedSimpArgs false
set_option maxRecDepth 8000

/-- Two wants held against each other. -/
theorem stood38 : Try.prog.stoodInHeld 49 = false := by kernel_rfl
theorem fields38 : Try.prog.underlying 49 = some (.struct (Try.prog.fieldsOf 49)) := by rw [Program.fieldsOf, Try.underlying49]
theorem guard38 : Try.prog.eqGuardType Try.prog.depth 49 = false := by kernel_rfl
theorem want_eq (c d : Wnt) (w : World) : (Op.equalIn 10000 49 (wnV c) (wnV d)).run Try.prog w = .ok (decide (c = d)) w := by
  rw [run_equalIn_agg w 9999 49 _ _ fields38 stood38]
  obtain ⟨a0, a1, a2, a3, a4, a5, a6, a7, a8, a9⟩ := c
  obtain ⟨b0, b1, b2, b3, b4, b5, b6, b7, b8, b9⟩ := d
  have e : decide ((⟨a0, a1, a2, a3, a4, a5, a6, a7, a8, a9⟩ : Wnt) = ⟨b0, b1, b2, b3, b4, b5, b6, b7, b8, b9⟩) = (a0 == b0 && (a1 == b1 && (a2 == b2 && (a3 == b3 && (a4 == b4 && (a5 == b5 && (a6 == b6 && (a7 == b7 && (a8 == b8 && (a9 == b9 && true)))))))))) := by
    rw [Bool.eq_iff_iff]
    simp only [decide_eq_true_eq, Wnt.mk.injEq, Bool.and_eq_true, beq_iff_eq, and_true]
  rw [e, show (Try.prog.fieldsOf 49).toList = [⟨ "Kind", 3, 0, false, "", "", 0⟩, ⟨ "Addr", 22, 1, false, "", "", 8⟩, ⟨ "Value", 22, 2, false, "", "", 16⟩, ⟨ "Acq", 3, 3, false, "", "", 24⟩, ⟨ "Rel", 4, 4, false, "", "", 32⟩, ⟨ "Fence", 3, 5, false, "", "", 40⟩, ⟨ "Dsb", 4, 6, false, "", "", 48⟩, ⟨ "Sys", 3, 7, false, "", "", 56⟩, ⟨ "Class", 3, 8, false, "", "", 64⟩, ⟨ "Iss", 3, 9, false, "", "", 72⟩] by kernel_rfl]
  refine eqField w (by decide) ?_ (eqField w (by decide) ?_ (eqField w (by decide) ?_ (eqField w (by decide) ?_ (eqField w (by decide) ?_ (eqField w (by decide) ?_ (eqField w (by decide) ?_ (eqField w (by decide) ?_ (eqField w (by decide) ?_ (eqField w (by decide) ?_ (by simp [Op.eqFields]))))))))))
  · rw [part_c 3 (by decide) (wnA ⟨a0, a1, a2, a3, a4, a5, a6, a7, a8, a9⟩) 0 (vI a0) w rfl, Result.andThen_ok, part_c 3 (by decide) (wnA ⟨b0, b1, b2, b3, b4, b5, b6, b7, b8, b9⟩) 0 (vI b0) w rfl, Result.andThen_ok, run_equalIn_int w 9998 3 .i64 .i64 _ _ Try.underlying3]
  · rw [part_c 22 (by decide) (wnA ⟨a0, a1, a2, a3, a4, a5, a6, a7, a8, a9⟩) 1 (vU a1) w rfl, Result.andThen_ok, part_c 22 (by decide) (wnA ⟨b0, b1, b2, b3, b4, b5, b6, b7, b8, b9⟩) 1 (vU b1) w rfl, Result.andThen_ok, run_equalIn_int w 9998 22 .u64 .u64 _ _ Try.underlying22]
  · rw [part_c 22 (by decide) (wnA ⟨a0, a1, a2, a3, a4, a5, a6, a7, a8, a9⟩) 2 (vU a2) w rfl, Result.andThen_ok, part_c 22 (by decide) (wnA ⟨b0, b1, b2, b3, b4, b5, b6, b7, b8, b9⟩) 2 (vU b2) w rfl, Result.andThen_ok, run_equalIn_int w 9998 22 .u64 .u64 _ _ Try.underlying22]
  · rw [part_c 3 (by decide) (wnA ⟨a0, a1, a2, a3, a4, a5, a6, a7, a8, a9⟩) 3 (vI a3) w rfl, Result.andThen_ok, part_c 3 (by decide) (wnA ⟨b0, b1, b2, b3, b4, b5, b6, b7, b8, b9⟩) 3 (vI b3) w rfl, Result.andThen_ok, run_equalIn_int w 9998 3 .i64 .i64 _ _ Try.underlying3]
  · rw [part_c 4 (by decide) (wnA ⟨a0, a1, a2, a3, a4, a5, a6, a7, a8, a9⟩) 4 (.bool a4) w rfl, Result.andThen_ok, part_c 4 (by decide) (wnA ⟨b0, b1, b2, b3, b4, b5, b6, b7, b8, b9⟩) 4 (.bool b4) w rfl, Result.andThen_ok, run_equalIn_bool' w 9998 4 _ _ Try.underlying4]
  · rw [part_c 3 (by decide) (wnA ⟨a0, a1, a2, a3, a4, a5, a6, a7, a8, a9⟩) 5 (vI a5) w rfl, Result.andThen_ok, part_c 3 (by decide) (wnA ⟨b0, b1, b2, b3, b4, b5, b6, b7, b8, b9⟩) 5 (vI b5) w rfl, Result.andThen_ok, run_equalIn_int w 9998 3 .i64 .i64 _ _ Try.underlying3]
  · rw [part_c 4 (by decide) (wnA ⟨a0, a1, a2, a3, a4, a5, a6, a7, a8, a9⟩) 6 (.bool a6) w rfl, Result.andThen_ok, part_c 4 (by decide) (wnA ⟨b0, b1, b2, b3, b4, b5, b6, b7, b8, b9⟩) 6 (.bool b6) w rfl, Result.andThen_ok, run_equalIn_bool' w 9998 4 _ _ Try.underlying4]
  · rw [part_c 3 (by decide) (wnA ⟨a0, a1, a2, a3, a4, a5, a6, a7, a8, a9⟩) 7 (vI a7) w rfl, Result.andThen_ok, part_c 3 (by decide) (wnA ⟨b0, b1, b2, b3, b4, b5, b6, b7, b8, b9⟩) 7 (vI b7) w rfl, Result.andThen_ok, run_equalIn_int w 9998 3 .i64 .i64 _ _ Try.underlying3]
  · rw [part_c 3 (by decide) (wnA ⟨a0, a1, a2, a3, a4, a5, a6, a7, a8, a9⟩) 8 (vI a8) w rfl, Result.andThen_ok, part_c 3 (by decide) (wnA ⟨b0, b1, b2, b3, b4, b5, b6, b7, b8, b9⟩) 8 (vI b8) w rfl, Result.andThen_ok, run_equalIn_int w 9998 3 .i64 .i64 _ _ Try.underlying3]
  · rw [part_c 3 (by decide) (wnA ⟨a0, a1, a2, a3, a4, a5, a6, a7, a8, a9⟩) 9 (vI a9) w rfl, Result.andThen_ok, part_c 3 (by decide) (wnA ⟨b0, b1, b2, b3, b4, b5, b6, b7, b8, b9⟩) 9 (vI b9) w rfl, Result.andThen_ok, run_equalIn_int w 9998 3 .i64 .i64 _ _ Try.underlying3]

theorem still_neqW {ops : Array Oper} {rest : List Oper} {o : Oper} {a : Act} {w : World} {Q : Act → Prop} (hg : Region.wanted o (yielded ops a.tmps) = true) (x y : Operand) (ho : o.op = .binOp .neq 49 x y 49) (c : Wnt) (hx : a.eval x = wnV c) (hy : a.eval y = wnV c)
    (h : wpStill Try.prog ops w Q rest (a.put o.dst (.bool false))) : wpStill Try.prog ops w Q (o :: rest) a := by
  refine wpStill_step fun K hK => ?_
  rw [if_pos hg]
  have he := want_eq c c w
  rw [show decide (c = c) = true by simp] at he
  unfold Oper.still execOp
  simp only [ho, hx, hy, Sem.run_bind, run_eqGuard_agg w _ _ _ _ _ _ guard38, Result.andThen_ok, run_neq_struct, he, Sem.run_pure, Oper.stillUpon_value]
  exact hK _ h
theorem still_neqC {ops : Array Oper} {rest : List Oper} {o : Oper} {a : Act} {w : World} {Q : Act → Prop} (hg : Region.wanted o (yielded ops a.tmps) = true) (x y : Operand) (ho : o.op = .binOp .neq 43 x y 43) (c : Cor) (hx : a.eval x = c.val) (hy : a.eval y = c.val)
    (h : wpStill Try.prog ops w Q rest (a.put o.dst (.bool false))) : wpStill Try.prog ops w Q (o :: rest) a := by
  refine wpStill_step fun K hK => ?_
  rw [if_pos hg]
  have he := core_eq c c w
  rw [eqC_refl] at he
  unfold Oper.still execOp
  simp only [ho, hx, hy, Sem.run_bind, run_eqGuard_agg w _ _ _ _ _ _ guard29, Result.andThen_ok, run_neq_struct, he, Sem.run_pure, Oper.stillUpon_value]
  exact hK _ h
theorem still_row {ops : Array Oper} {rest : List Oper} {o : Oper} {a : Act} {w : World} {Q : Act → Prop} (hg : Region.wanted o (yielded ops a.tmps) = true) (t : TypeId) (x : Operand) (ho : o.op = .load t x) {p : Addr} (hx : a.eval x = .pointer (some p)) {v : Value} (hr : (loadVar t p).run Try.prog w = .ok v w)
    (h : wpStill Try.prog ops w Q rest (a.put o.dst v)) : wpStill Try.prog ops w Q (o :: rest) a := by
  refine wpStill_step fun K hK => ?_
  rw [if_pos hg]
  unfold Oper.still execOp
  simp only [ho, hx, Instr.loadAt, Instr.sureAddr, Sem.run_bind, Sem.run_pure, Result.andThen_ok, hr, Oper.stillUpon_value]
  exact hK _ h
theorem right_fits {pc words el : Int} {l : List Opr} (h : rightB pc words el l = true) (hu : ∀ k, U64 (opAt l k).imm) : (∀ k, k < l.length → OpFits l (opAt l k)) ∧ (∀ k, k < l.length → isK (opAt l k).kind = true ∧ (hasP (opAt l k).kind 128 = true ↔ k + 1 = l.length)) := by
  have h0 := (right_lens h).1
  refine ⟨fun k hk => ?_, fun k hk => ?_⟩
  · have hok := right_at h hk
    have hrg : rangeB (opAt l k) = true := by have := hok; unfold okAt opB at this; simp only [Bool.and_eq_true] at this; exact this.1.2.2
    have ha : 0 ≤ (opAt l k).a ∧ (opAt l k).a < l.length := by
      cases e : hasP (opAt l k).kind 2 with
      | true => have := use_lt h hk (uses_a e); omega
      | false => rw [noA hok e]; omega
    have hb : 0 ≤ (opAt l k).b ∧ (opAt l k).b < l.length := by
      cases e : hasP (opAt l k).kind 4 with
      | true => have := use_lt h hk (uses_b e); omega
      | false => rw [noB hok e]; omega
    exact ⟨⟨kind_ok hok, fun _ => ha, fun _ => hb, hrg, hu k⟩, ha, hb⟩
  · have hok := right_at h hk
    refine ⟨kind_ok hok, ?_⟩
    unfold okAt at hok
    simp only [Bool.and_eq_true, beq_iff_eq] at hok
    rw [hok.1.1.2]; simp
theorem wpList_neqW {ops : Array Oper} {rest : List Oper} {o : Oper} {a : Act} {w : World} {Q : Exit → Act → World → Prop} (hw : Region.wanted o (yielded ops a.tmps) = true) (x y : Operand) (ho : o.op = .binOp .neq 49 x y 49) (c : Wnt) (hx : a.eval x = wnV c) (hy : a.eval y = wnV c)
    (h : wpList Try.prog ops Q rest (a.put o.dst (.bool false)) w) : wpList Try.prog ops Q (o :: rest) a w := by
  refine BigFrame.wpList_want hw fun K hK => ?_
  have he := want_eq c c w
  rw [show decide (c = c) = true by simp] at he
  unfold Oper.wp execOp
  simp only [ho, hx, hy, Sem.run_bind, run_eqGuard_agg w _ _ _ _ _ _ guard38, Result.andThen_ok, run_neq_struct, he, Sem.run_pure]
  exact hK _ _ h
/-- Both runs in memory. -/
structure Tq (w : World) (pc words el : Int) (v1 : Value) (l : List Opr) (v2 : Value) (m : List Opr) (g1 vb1 g2 vb2 b1 : Nat) (D E : Dn) (x : World) : Prop where
  d1 : DocAt pc words el v1 l g1 vb1 D x
  d2 : DocAt pc words el v2 m g2 vb2 E x
  row : x.heap[b1]? = some (.cells (blA pc words el v1) 25)
  below : Below w.heap.size w x
  lo : w.heap.size ≤ g1 ∧ w.heap.size ≤ vb1 ∧ w.heap.size ≤ g2 ∧ w.heap.size ≤ vb2
  ap : g1 ≠ g2 ∧ g1 ≠ vb2 ∧ vb1 ≠ g2 ∧ vb1 ≠ vb2
  far1 : ∀ ra n cap, v1 = .slice (some ra) n cap → ra.block ≠ g2 ∧ ra.block ≠ vb2
  far2 : ∀ ra n cap, v2 = .slice (some ra) n cap → ra.block ≠ g1 ∧ ra.block ≠ vb1
section
variable {w x y : World} {pc words el : Int} {v1 v2 : Value} {l m : List Opr} {g1 vb1 g2 vb2 b1 : Nat} {D E D' E' : Dn}
theorem Tq.grow (C : Tq w pc words el v1 l v2 m g1 vb1 g2 vb2 b1 D E x) (hb : Below x.heap.size x y) : Tq w pc words el v1 l v2 m g1 vb1 g2 vb2 b1 D E y :=
  ⟨C.d1.grow hb, C.d2.grow hb, keepRow C.row hb, below_then C.below (Nat.le_refl _) hb, C.lo, C.ap, C.far1, C.far2⟩
theorem Tq.one (C : Tq w pc words el v1 l v2 m g1 vb1 g2 vb2 b1 D E x) (R : DT pc words el v1 l g1 vb1 D' x y) : Tq w pc words el v1 l v2 m g1 vb1 g2 vb2 b1 D' E y := by
  obtain ⟨a1, a2, a3, a4⟩ := C.ap
  refine ⟨R.1, C.d2.keep R.2.size (R.2.block _ C.d2.lt (fun e => by rcases e with e | e; exact a1 e.symm; exact a3 e.symm)) (R.2.block _ C.d2.ltv (fun e => by rcases e with e | e; exact a2 e.symm; exact a4 e.symm)) (fun ra n cap e hk => R.2.block _ hk (fun q => by have := C.far2 ra n cap e; rcases q with q | q; exact this.1 q; exact this.2 q)), R.kept C.row (ne_of_type C.row C.d1.top (by decide)) (ne_of_type C.row C.d1.vals (by decide)), ?_, C.lo, C.ap, C.far1, C.far2⟩
  exact C.below.trans (R.2.below C.below.size (fun k hk => by rcases hk with rfl | rfl; exact C.lo.1; exact C.lo.2.1))
theorem Tq.two (C : Tq w pc words el v1 l v2 m g1 vb1 g2 vb2 b1 D E x) (R : DT pc words el v2 m g2 vb2 E' x y) : Tq w pc words el v1 l v2 m g1 vb1 g2 vb2 b1 D E' y := by
  obtain ⟨a1, a2, a3, a4⟩ := C.ap
  refine ⟨C.d1.keep R.2.size (R.2.block _ C.d1.lt (fun e => by rcases e with e | e; exact a1 e; exact a2 e)) (R.2.block _ C.d1.ltv (fun e => by rcases e with e | e; exact a3 e; exact a4 e)) (fun ra n cap e hk => R.2.block _ hk (fun q => by have := C.far1 ra n cap e; rcases q with q | q; exact this.1 q; exact this.2 q)), R.1, R.kept C.row (ne_of_type C.row C.d2.top (by decide)) (ne_of_type C.row C.d2.vals (by decide)), ?_, C.lo, C.ap, C.far1, C.far2⟩
  exact C.below.trans (R.2.below C.below.size (fun k hk => by rcases hk with rfl | rfl; exact C.lo.2.2.1; exact C.lo.2.2.2))
end
section
variable {w : World} {pc words el : Int} {v : Value} {l : List Opr} {c : Cor}
theorem newDY_c (hpc : 0 ≤ pc) (O : Ops w v l) (hu : ∀ k, U64 (opAt l k).imm) (hcap : ∀ ao n cap, v = .slice ao n cap → n ≤ cap) (hc : CorOk c) (hE : newE pc words el l c = 0) : Calls Try.prog 15 #[blV pc words el v, c.val] w fun e w' => (∃ g vb, e = .returned (.tuple #[ptr g 0, vI 0]) ∧ DocAt pc words el v l g vb (newD l.length c) w' ∧ w.heap.size ≤ g ∧ w.heap.size ≤ vb) ∧ Below w.heap.size w w' := by
  obtain ⟨ao, cap, rfl⟩ := O.len
  refine (dNew_c hpc O (fun k => (hu k).1) hcap hc).mono ?_
  rintro e w' ⟨hb, ⟨h, _⟩ | ⟨_, u, rfl, F⟩⟩
  · exact absurd hE h
  · obtain ⟨g, vb, rfl, H, h1, h2⟩ := F
    exact ⟨⟨g, vb, rfl, H, h1, h2⟩, hb⟩
theorem newDN_c (hpc : 0 ≤ pc) (O : Ops w v l) (hu : ∀ k, U64 (opAt l k).imm) (hcap : ∀ ao n cap, v = .slice ao n cap → n ≤ cap) (hc : CorOk c) (hE : newE pc words el l c = 1) : Calls Try.prog 15 #[blV pc words el v, c.val] w fun e w' => e = .returned (.tuple #[.pointer none, vI 1]) ∧ Below w.heap.size w w' := by
  obtain ⟨ao, cap, rfl⟩ := O.len
  refine (dNew_c hpc O (fun k => (hu k).1) hcap hc).mono ?_
  rintro e w' ⟨hb, ⟨h, he⟩ | ⟨h, _⟩⟩
  · rw [hE] at he; exact ⟨he, hb⟩
  · rw [hE] at h; cases h
end
end Go.Proofs.Ytejlmggfeejgpaa
