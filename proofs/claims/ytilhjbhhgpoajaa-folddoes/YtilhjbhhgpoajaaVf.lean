/- Both runs in memory. -/
import Derived.Test.YtilhjbhhgpoajaaXx
import Derived.Test.YtilhjbhhgpoajaaXo
import Derived.Test.YtilhjbhhgpoajaaGa
namespace Go.Proofs.Ytilhjbhhgpoajaa
open Go.RowKit
set_option linter.unusedVariables false
set_option linter.unusedSimpArgs false
set_option maxRecDepth 8000

/-- Two wants held against each other. -/
theorem stood38 : Try.prog.stoodInHeld 60 = false := by kernel_rfl
theorem fields38 : Try.prog.underlying 60 = some (.struct (Try.prog.fieldsOf 60)) := by rw [Program.fieldsOf, Try.underlying60]
theorem guard38 : Try.prog.eqGuardType Try.prog.depth 60 = false := by kernel_rfl
theorem want_eq (c d : Wnt) (w : World) : (Op.equalIn 10000 60 (wnV c) (wnV d)).run Try.prog w = .ok (decide (c = d)) w := by
  rw [run_equalIn_agg w 9999 60 _ _ fields38 stood38]
  obtain ⟨a0, a1, a2, a3, a4, a5, a6, a7, a8, a9⟩ := c
  obtain ⟨b0, b1, b2, b3, b4, b5, b6, b7, b8, b9⟩ := d
  have e : decide ((⟨a0, a1, a2, a3, a4, a5, a6, a7, a8, a9⟩ : Wnt) = ⟨b0, b1, b2, b3, b4, b5, b6, b7, b8, b9⟩) = (a0 == b0 && (a1 == b1 && (a2 == b2 && (a3 == b3 && (a4 == b4 && (a5 == b5 && (a6 == b6 && (a7 == b7 && (a8 == b8 && (a9 == b9 && true)))))))))) := by
    rw [Bool.eq_iff_iff]
    simp only [decide_eq_true_eq, Wnt.mk.injEq, Bool.and_eq_true, beq_iff_eq, and_true]
  rw [e, show (Try.prog.fieldsOf 60).toList = [⟨ "Kind", 3, 0, false, "", "", 0⟩, ⟨ "Addr", 22, 1, false, "", "", 8⟩, ⟨ "Value", 22, 2, false, "", "", 16⟩, ⟨ "Acq", 3, 3, false, "", "", 24⟩, ⟨ "Rel", 4, 4, false, "", "", 32⟩, ⟨ "Fence", 3, 5, false, "", "", 40⟩, ⟨ "Dsb", 4, 6, false, "", "", 48⟩, ⟨ "Sys", 3, 7, false, "", "", 56⟩, ⟨ "Class", 3, 8, false, "", "", 64⟩, ⟨ "Iss", 3, 9, false, "", "", 72⟩] by kernel_rfl]
  refine eqField w (by decide) ?_ (eqField w (by decide) ?_ (eqField w (by decide) ?_ (eqField w (by decide) ?_ (eqField w (by decide) ?_ (eqField w (by decide) ?_ (eqField w (by decide) ?_ (eqField w (by decide) ?_ (eqField w (by decide) ?_ (eqField w (by decide) ?_ (by simp [Op.eqFields]))))))))))
  · rw [part_c 3 (by decide) (wnA ⟨a0, a1, a2, a3, a4, a5, a6, a7, a8, a9⟩) 0 (vI a0) w rfl, Result.andThen_ok, part_c 3 (by decide) (wnA ⟨b0, b1, b2, b3, b4, b5, b6, b7, b8, b9⟩) 0 (vI b0) w rfl, Result.andThen_ok, run_equalIn_int w 9998 3 .i64 .i64 _ _ Try.underlying3]
  · rw [part_c 22 (by decide) (wnA ⟨a0, a1, a2, a3, a4, a5, a6, a7, a8, a9⟩) 1 (vU a1) w rfl, Result.andThen_ok, part_c 22 (by decide) (wnA ⟨b0, b1, b2, b3, b4, b5, b6, b7, b8, b9⟩) 1 (vU b1) w rfl, Result.andThen_ok, run_equalIn_int w 9998 22 .u64 .u64 _ _ Try.underlying22]
  · rw [part_c 22 (by decide) (wnA ⟨a0, a1, a2, a3, a4, a5, a6, a7, a8, a9⟩) 2 (vU a2) w rfl, Result.andThen_ok, part_c 22 (by decide) (wnA ⟨b0, b1, b2, b3, b4, b5, b6, b7, b8, b9⟩) 2 (vU b2) w rfl, Result.andThen_ok, run_equalIn_int w 9998 22 .u64 .u64 _ _ Try.underlying22]
  · rw [part_c 3 (by decide) (wnA ⟨a0, a1, a2, a3, a4, a5, a6, a7, a8, a9⟩) 3 (vI a3) w rfl, Result.andThen_ok, part_c 3 (by decide) (wnA ⟨b0, b1, b2, b3, b4, b5, b6, b7, b8, b9⟩) 3 (vI b3) w rfl, Result.andThen_ok, run_equalIn_int w 9998 3 .i64 .i64 _ _ Try.underlying3]
  · rw [part_c 4 (by decide) (wnA ⟨a0, a1, a2, a3, a4, a5, a6, a7, a8, a9⟩) 4 (.bool a4) w rfl, Result.andThen_ok, part_c 4 (by decide) (wnA ⟨b0, b1, b2, b3, b4, b5, b6, b7, b8, b9⟩) 4 (.bool b4) w rfl, Result.andThen_ok, run_equalIn_bool' w 9998 4 _ _ Try.underlying4]
  · rw [part_c 3 (by decide) (wnA ⟨a0, a1, a2, a3, a4, a5, a6, a7, a8, a9⟩) 5 (vI a5) w rfl, Result.andThen_ok, part_c 3 (by decide) (wnA ⟨b0, b1, b2, b3, b4, b5, b6, b7, b8, b9⟩) 5 (vI b5) w rfl, Result.andThen_ok, run_equalIn_int w 9998 3 .i64 .i64 _ _ Try.underlying3]
  · rw [part_c 4 (by decide) (wnA ⟨a0, a1, a2, a3, a4, a5, a6, a7, a8, a9⟩) 6 (.bool a6) w rfl, Result.andThen_ok, part_c 4 (by decide) (wnA ⟨b0, b1, b2, b3, b4, b5, b6, b7, b8, b9⟩) 6 (.bool b6) w rfl, Result.andThen_ok, run_equalIn_bool' w 9998 4 _ _ Try.underlying4]
  · rw [part_c 3 (by decide) (wnA ⟨a0, a1, a2, a3, a4, a5, a6, a7, a8, a9⟩) 7 (vI a7) w rfl, Result.andThen_ok, part_c 3 (by decide) (wnA ⟨b0, b1, b2, b3, b4, b5, b6, b7, b8, b9⟩) 7 (vI b7) w rfl, Result.andThen_ok, run_equalIn_int w 9998 3 .i64 .i64 _ _ Try.underlying3]
  · rw [part_c 3 (by decide) (wnA ⟨a0, a1, a2, a3, a4, a5, a6, a7, a8, a9⟩) 8 (vI a8) w rfl, Result.andThen_ok, part_c 3 (by decide) (wnA ⟨b0, b1, b2, b3, b4, b5, b6, b7, b8, b9⟩) 8 (vI b8) w rfl, Result.andThen_ok, run_equalIn_int w 9998 3 .i64 .i64 _ _ Try.underlying3]
  · rw [part_c 3 (by decide) (wnA ⟨a0, a1, a2, a3, a4, a5, a6, a7, a8, a9⟩) 9 (vI a9) w rfl, Result.andThen_ok, part_c 3 (by decide) (wnA ⟨b0, b1, b2, b3, b4, b5, b6, b7, b8, b9⟩) 9 (vI b9) w rfl, Result.andThen_ok, run_equalIn_int w 9998 3 .i64 .i64 _ _ Try.underlying3]

theorem still_neqW {ops : Array Oper} {rest : List Oper} {o : Oper} {a : Act} {w : World} {Q : Act → Prop} (hg : Region.wanted o (yielded ops a.tmps) = true) (x y : Operand) (ho : o.op = .binOp .neq 60 x y 60) (c : Wnt) (hx : a.eval x = wnV c) (hy : a.eval y = wnV c)
    (h : wpStill Try.prog ops w Q rest (a.put o.dst (.bool false))) : wpStill Try.prog ops w Q (o :: rest) a := by
  refine wpStill_step fun K hK => ?_
  rw [if_pos hg]
  have he := want_eq c c w
  rw [show decide (c = c) = true by simp] at he
  unfold Oper.still execOp
  simp only [ho, hx, hy, Sem.run_bind, run_eqGuard_agg w _ _ _ _ _ _ guard38, Result.andThen_ok, run_neq_struct, he, Sem.run_pure, Oper.stillUpon_value]
  exact hK _ h
theorem still_neqC {ops : Array Oper} {rest : List Oper} {o : Oper} {a : Act} {w : World} {Q : Act → Prop} (hg : Region.wanted o (yielded ops a.tmps) = true) (x y : Operand) (ho : o.op = .binOp .neq 29 x y 29) (c : Cor) (hx : a.eval x = c.val) (hy : a.eval y = c.val)
    (h : wpStill Try.prog ops w Q rest (a.put o.dst (.bool false))) : wpStill Try.prog ops w Q (o :: rest) a := by
  refine wpStill_step fun K hK => ?_
  rw [if_pos hg]
  have he := core_eq c c w
  rw [eqC_refl] at he
  unfold Oper.still execOp
  simp only [ho, hx, hy, Sem.run_bind, run_eqGuard_agg w _ _ _ _ _ _ guard29, Result.andThen_ok, run_neq_struct, he, Sem.run_pure, Oper.stillUpon_value]
  exact hK _ h
section
variable {pc words el : Int} {l m : List Opr} {D E : Dn}
theorem right_fits (h : rightB pc words el l = true) (hu : ∀ k, U64 (opAt l k).imm) : (∀ k, k < l.length → OpFits l (opAt l k)) ∧ (∀ k, k < l.length → isK (opAt l k).kind = true ∧ (hasP (opAt l k).kind 128 = true ↔ k + 1 = l.length)) := by
  refine ⟨fun k hk => ?_, fun k hk => ?_⟩
  · have P := right_ok h hk
    obtain ⟨za, zb⟩ := okP_ab P
    have hrg : rangeB (opAt l k) = true := by have := P.op; unfold opB at this; simp only [Bool.and_eq_true] at this; exact this.2
    have ha : 0 ≤ (opAt l k).a ∧ (opAt l k).a < l.length := by
      cases e : hasP (opAt l k).kind 2 with
      | true => have := P.a e; omega
      | false => rw [za e]; omega
    have hb : 0 ≤ (opAt l k).b ∧ (opAt l k).b < l.length := by
      cases e : hasP (opAt l k).kind 4 with
      | true => have := P.b e; omega
      | false => rw [zb e]; omega
    exact ⟨⟨P.kind, fun _ => ha, fun _ => hb, hrg, hu k⟩, ha, hb⟩
  · have P := right_ok h hk
    refine ⟨P.kind, ?_⟩
    rw [P.last]; simp
theorem gk_in (h : rightB pc words el l = true) (hu : ∀ k, U64 (opAt l k).imm) {k : Nat} (G : Gk el l k D E) : E.at_ < (layAll l).length := by
  have hk := G.lt
  obtain ⟨j, hj, e, hd, _, H, R⟩ := foS_stops h hu k (Nat.le_of_lt hk)
  have hkj : k = j := by
    rcases hd with hd | hd
    · exact hd
    · rw [← e, G.nl] at hd; cases hd
  subst hkj
  obtain ⟨rm, _, _⟩ := right_layAll h hu
  have hm0 := (right_first rm).1
  obtain ⟨t, ht⟩ := begins_all h (l.length - k) k (by omega)
  rw [G.atE]
  have hle : (foS l k).1.laid.length ≤ (layAll l).length := by rw [ht]; simp
  rcases Nat.lt_or_ge (foS l k).1.laid.length (layAll l).length with q | q
  · exact q
  · exfalso
    have q : (foS l k).1.laid.length = (layAll l).length := by omega
    have t0 : t = [] := by
      have := congrArg List.length ht
      rw [List.length_append, q] at this
      exact List.length_eq_zero_iff.1 (by omega)
    rw [t0, List.append_nil] at ht
    have P := right_ok rm (show (layAll l).length - 1 < (layAll l).length by omega)
    have hl := P.last
    rw [show decide ((layAll l).length - 1 + 1 = (layAll l).length) = true by simp; omega] at hl
    have hR := (R.last ((layAll l).length - 1) (by omega)).1 (by rw [← ht]; exact hl)
    rcases hR.2 with z | z
    · rw [G.nl] at z; cases z
    · omega
theorem pk_le (h : rightB pc words el l = true) {k : Nat} (Q : Pk el l k D E) : (1 ≤ D.at_ ∧ D.at_ ≤ l.length) ∧ (1 ≤ E.at_ ∧ E.at_ ≤ (layAll l).length) := by
  have hk := Q.lt
  obtain ⟨t, ht⟩ := begins_all h (l.length - (k + 1)) (k + 1) (by omega)
  have hle : (foS l (k + 1)).1.laid.length ≤ (layAll l).length := by rw [ht]; simp
  have := Q.atD
  have := Q.atE
  have := Q.pos
  omega
end
/-- Both runs in memory. -/
structure Tq (w : World) (pc words el : Int) (v1 : Value) (l : List Opr) (v2 : Value) (m : List Opr) (g1 vb1 g2 vb2 b1 : Nat) (D E : Dn) (x : World) : Prop where
  d1 : DocAt pc words el v1 l g1 vb1 D x
  d2 : DocAt pc words el v2 m g2 vb2 E x
  row : x.heap[b1]? = some (.cells (blA pc words el v1) 25)
  below : Below w.heap.size w x
  lo : w.heap.size ≤ g1 ∧ w.heap.size ≤ vb1 ∧ w.heap.size ≤ g2 ∧ w.heap.size ≤ vb2
  ap : g1 ≠ g2 ∧ g1 ≠ vb2 ∧ vb1 ≠ g2 ∧ vb1 ≠ vb2
  far1 : ∀ ra n cap, v1 = .slice (some ra) n cap → ra.block ≠ g2 ∧ ra.block ≠ vb2
  far2 : ∀ ra n cap, v2 = .slice (some ra) n cap → ra.block ≠ g1 ∧ ra.block ≠ vb1
section
variable {w x y : World} {pc words el : Int} {v1 v2 : Value} {l m : List Opr} {g1 vb1 g2 vb2 b1 : Nat} {D E D' E' : Dn}
theorem Tq.grow (C : Tq w pc words el v1 l v2 m g1 vb1 g2 vb2 b1 D E x) (hb : Below x.heap.size x y) : Tq w pc words el v1 l v2 m g1 vb1 g2 vb2 b1 D E y :=
  ⟨C.d1.grow hb, C.d2.grow hb, keepRow C.row hb, below_then C.below (Nat.le_refl _) hb, C.lo, C.ap, C.far1, C.far2⟩
theorem Tq.one (C : Tq w pc words el v1 l v2 m g1 vb1 g2 vb2 b1 D E x) (R : DT pc words el v1 l g1 vb1 D' x y) : Tq w pc words el v1 l v2 m g1 vb1 g2 vb2 b1 D' E y := by
  obtain ⟨a1, a2, a3, a4⟩ := C.ap
  refine ⟨R.1, C.d2.keep R.2.size (R.2.block _ C.d2.lt (fun e => by rcases e with e | e; exact a1 e.symm; exact a3 e.symm)) (R.2.block _ C.d2.ltv (fun e => by rcases e with e | e; exact a2 e.symm; exact a4 e.symm)) (fun ra n cap e hk => R.2.block _ hk (fun q => by have := C.far2 ra n cap e; rcases q with q | q; exact this.1 q; exact this.2 q)), R.kept C.row (ne_of_type C.row C.d1.top (by decide)) (ne_of_type C.row C.d1.vals (by decide)), ?_, C.lo, C.ap, C.far1, C.far2⟩
  exact C.below.trans (R.2.below C.below.size (fun k hk => by rcases hk with rfl | rfl; exact C.lo.1; exact C.lo.2.1))
theorem Tq.two (C : Tq w pc words el v1 l v2 m g1 vb1 g2 vb2 b1 D E x) (R : DT pc words el v2 m g2 vb2 E' x y) : Tq w pc words el v1 l v2 m g1 vb1 g2 vb2 b1 D E' y := by
  obtain ⟨a1, a2, a3, a4⟩ := C.ap
  refine ⟨C.d1.keep R.2.size (R.2.block _ C.d1.lt (fun e => by rcases e with e | e; exact a1 e; exact a2 e)) (R.2.block _ C.d1.ltv (fun e => by rcases e with e | e; exact a3 e; exact a4 e)) (fun ra n cap e hk => R.2.block _ hk (fun q => by have := C.far1 ra n cap e; rcases q with q | q; exact this.1 q; exact this.2 q)), R.1, R.kept C.row (ne_of_type C.row C.d2.top (by decide)) (ne_of_type C.row C.d2.vals (by decide)), ?_, C.lo, C.ap, C.far1, C.far2⟩
  exact C.below.trans (R.2.below C.below.size (fun k hk => by rcases hk with rfl | rfl; exact C.lo.2.2.1; exact C.lo.2.2.2))
end
section
variable {w : World} {pc words el : Int} {v : Value} {l : List Opr} {c : Cor}
theorem newDY_c (hpc : 0 ≤ pc) (O : Ops w v l) (hu : ∀ k, U64 (opAt l k).imm) (hcap : ∀ ao n cap, v = .slice ao n cap → n ≤ cap) (hc : CorOk c) (hE : newE pc words el l c = 0) : Calls Try.prog 25 #[blV pc words el v, c.val] w fun e w' => (∃ g vb, e = .returned (.tuple #[ptr g 0, vI 0]) ∧ DocAt pc words el v l g vb (newD l.length c) w' ∧ w.heap.size ≤ g ∧ w.heap.size ≤ vb) ∧ Below w.heap.size w w' := by
  obtain ⟨ao, cap, rfl⟩ := O.len
  refine (dNew_c hpc O (fun k => (hu k).1) hcap hc).mono ?_
  rintro e w' ⟨hb, ⟨h, _⟩ | ⟨_, u, rfl, F⟩⟩
  · exact absurd hE h
  · obtain ⟨g, vb, rfl, H, h1, h2⟩ := F
    exact ⟨⟨g, vb, rfl, H, h1, h2⟩, hb⟩
theorem newDN_c (hpc : 0 ≤ pc) (O : Ops w v l) (hu : ∀ k, U64 (opAt l k).imm) (hcap : ∀ ao n cap, v = .slice ao n cap → n ≤ cap) (hc : CorOk c) (hE : newE pc words el l c = 1) : Calls Try.prog 25 #[blV pc words el v, c.val] w fun e w' => e = .returned (.tuple #[.pointer none, vI 1]) ∧ Below w.heap.size w w' := by
  obtain ⟨ao, cap, rfl⟩ := O.len
  refine (dNew_c hpc O (fun k => (hu k).1) hcap hc).mono ?_
  rintro e w' ⟨hb, ⟨h, he⟩ | ⟨h, _⟩⟩
  · rw [hE] at he; exact ⟨he, hb⟩
  · rw [hE] at h; cases h
end
end Go.Proofs.Ytilhjbhhgpoajaa
