/- The document's own Put. -/
import Derived.Test.YtjkjbcnafpljoaaVa
import Derived.Test.YtjkjbcnafpljoaaChx
namespace Go.Proofs.Ytjkjbcnafpljoaa
open Go.RowKit
set_option linter.unusedVariables false
set_option linter.unusedSimpArgs false

theorem chn_app4 {o : Oper} {a : Act} {w : World} {F : Value → World → Prop} (s x : Operand) (ho : o.op = .call { callee := .builtin .append, args := #[s, x], argTypes := #[45, 45] }) (v : Value) (l : List R4) (hs : a.eval s = v) (hown : w.ownsRow 0 102 4 v l.length (flatR l))
    (b k c : Nat) (z : R4) (hx : a.eval x = .slice (some ⟨b, k, none⟩) 1 c) (hc : ∀ (j : Nat) u, z.row[j]? = some u → w.cell? ⟨b, k + j, none⟩ = some u) (hl : l.length < 1000000000)
    (h : ∀ g cap w', w'.ownsRow 0 102 4 (.slice (some ⟨g, 0, none⟩) (l.length + 1) cap) (l ++ [z]).length (flatR (l ++ [z])) → w.grownBy w' v.ownBlock → (v.ownBlock = some g ∨ g = w.heap.size) → F (.slice (some ⟨g, 0, none⟩) (l.length + 1) cap) w') :
    Chn.upon Try.prog F w ((execOp a.eval o).run Try.prog w) := by
  obtain ⟨i, h1, h2, h3, h4⟩ := inf102b
  obtain ⟨g, cap, w', hr, q1, q2, q3, q4⟩ := run_append_lies (P := Try.prog) w 45 o.type 0 102 i (.agg #[vI 0, vU 0, vU 0, vI 0]) 4 32 Try.underlying45 h1 h2 h3 h4 rfl (by decide) v l.length (flatR l) hown ⟨b, k, none⟩ 1 c (flatR [z]) rfl (by
    intro j u hj
    rw [add_zero_addr]
    exact hc j u hj) (one_flatR _) (by decide) (by simp only [maxLen]; omega) (by omega) (Nat.zero_le _) w.heap.size rfl
  unfold execOp
  simp only [ho, resolve, invoke, builtin, Sem.run_bind, Sem.run_pure, Result.andThen_ok, List.map_toArray, List.map_cons, List.map_nil, hs, hx, hr]
  refine h g cap w' ?_ q2 q3
  have e : flatR (l ++ [z]) = flatR l ++ flatR [z] := by simp [flatR]
  rw [List.length_append, e]
  exact q1
theorem chn_build4 {o : Oper} {a : Act} {w : World} {C : World → Prop} {N : Nat} (hN : w.heap.size = N) (x : Operand) (ho : o.op = .buildSlice 45 1 #[(0, x)]) (s : R4) (hx : a.eval x = .agg s.row.toArray) (hC : C (w.alloc (.cells s.row.toArray 102))) :
    Chn.upon Try.prog (fun v w' => v = .slice (some ⟨N, 0, none⟩) 1 1 ∧ C w') w ((execOp a.eval o).run Try.prog w) := by
  obtain ⟨i, h1, h2, h3, h4⟩ := inf102b
  have hf : Instr.fill (fun j => some (j * i.size, i.size)) ((Array.range (1 * i.size)).map ((Value.agg #[vI 0, vU 0, vU 0, vI 0]).cells[· % (Value.agg #[vI 0, vU 0, vU 0, vI 0]).cells.size]!)) (#[(0, .agg s.row.toArray)] : Array (Nat × Value)).toList = some s.row.toArray := by
    rw [h3]; kernel_rfl
  have hr := run_buildSlice (P := Try.prog) w 45 102 1 #[(0, .agg s.row.toArray)] s.row.toArray i _ Try.underlying45 h1 h2 (by rw [h3]; decide) (by rw [h3]; decide) hf
  unfold execOp
  simp only [ho, Sem.run_bind, List.map_toArray, List.map_cons, List.map_nil, hx, hr, Result.andThen_ok]
  exact ⟨by rw [hN], hC⟩
theorem chn_built {o : Oper} {a : Act} {w : World} {C : World → Prop} {c : Value} (t : TypeId) (parts : Array (Nat × Operand)) (ho : o.op = .build t parts) (cs : Array Value) (hb : Try.prog.built t (parts.map fun (i, x) => (i, a.eval x)).toList = some cs) (hc : .agg cs = c) (hC : C w) :
    Chn.upon Try.prog (fun v w' => v = c ∧ C w') w ((execOp a.eval o).run Try.prog w) := by
  unfold execOp
  simp only [ho, Sem.run_bind, run_build w t _ _ hb, Result.andThen_ok]
  exact ⟨hc, hC⟩
theorem DocAt.stamp {h : Nat} {X : Doc} {L : DocLay} {w : World} (H : DocAt h X L w) (x : Int) : DocAt h { X with stamps := x } L (w.setCell ⟨h, 4, none⟩ (vI x)) := by
  have keep : ∀ k, k ≠ h → (w.setCell ⟨h, 4, none⟩ (vI x)).heap[k]? = w.heap[k]? := fun k hk => Below.heap_setCell _ _ _ _ hk
  refine ⟨?_, own_of_block H.first fun k hk => keep k ?_, own_of_block H.all fun k hk => keep k ?_⟩
  · rw [setCell_eq_setRow _ _ _ _ _ _ _ H.top]
    exact setRow_heap _ _ _ _ _ _ H.top
  · rintro rfl
    exact own_ne H.top H.first (by decide) hk
  · rintro rfl
    exact own_ne H.top H.all (by decide) hk
theorem info45 : (Try.prog.info? 45).map (·.size) = some 1 := by kernel_rfl
def PC (h : Nat) (X : Doc) (L : DocLay) (r : R4) (w1 : World) (N : Nat) : Nat → Option Value → World → Prop
  | 0, none, w' => Below w1.heap.size w1 w' ∧ w'.heap.size = N
  | 1, none, w' => Below w1.heap.size w1 w' ∧ w'.heap[N]? = some (.cells r.row.toArray 102)
  | 2, some v, w' => ∃ wa q cap, v = .slice (some ⟨q, 0, none⟩) (X.all.length + 1) cap ∧ Below w1.heap.size w1 wa ∧ w'.ownsRow 0 102 4 v (X.all ++ [r]).length (flatR (X.all ++ [r])) ∧ wa.grownBy w' L.av.ownBlock ∧ (L.av.ownBlock = some q ∨ q = wa.heap.size)
  | 3, some v, w' => DocTurn h L { X with all := X.all ++ [r] } w1 w'
  | _, _, _ => False
theorem pc_reads {h : Nat} {X : Doc} {L : DocLay} {r : R4} {w1 w' : World} {N : Nat} (H : DocAt h X L w1) {j : Nat} {ou : Option Value} (hj : j ≤ 2) (C : PC h X L r w1 N j ou w') : w'.cell? ⟨h, 3, none⟩ = some L.av ∧ w'.cell? ⟨h, 4, none⟩ = some (vI X.stamps) ∧ w'.frozen? ⟨h, 3, none⟩ = false := by
  match j, ou, C with
  | 0, none, C => exact ⟨(H.grow C.1).c3, (H.grow C.1).c4, frozen_of_row _ _ _ _ _ (H.grow C.1).top⟩
  | 1, none, C => exact ⟨(H.grow C.1).c3, (H.grow C.1).c4, frozen_of_row _ _ _ _ _ (H.grow C.1).top⟩
  | 2, some v, C =>
    obtain ⟨wa, q, cap, _, hB, _, hg, _⟩ := C
    have H2 := H.grow hB
    have e : w'.heap[h]? = wa.heap[h]? := hg.block h (lt_of_some H2.top) (fun e => own_ne H2.top H2.all (by decide) e.symm)
    have ht := H2.top
    rw [← e] at ht
    exact ⟨by rw [cell_of_row _ _ _ _ _ _ ht]; rfl, by rw [cell_of_row _ _ _ _ _ _ ht]; rfl, frozen_of_row _ _ _ _ _ ht⟩
def putDS (X : Doc) (c a v : Int) : Doc := { flushDS X c with stamps := (flushDS X c).stamps + 1, all := (flushDS X c).all ++ [⟨c, a, v, (flushDS X c).stamps + 1⟩] }
set_option maxRecDepth 4000 in
theorem putD_c (h : Nat) (X : Doc) (L : DocLay) (core addr v : Int) (w : World) (H : DocAt h X L w) (hn : X.all.length < 400000) (hs0 : 0 ≤ X.stamps) (hs1 : X.stamps < 400000) : Calls Try.prog 44 #[ptr h 0, vI core, vU addr, vU v] w fun e w' => ∃ ha hc, e = .returned (.tuple #[vI ((X.all.length : Int) + 1), .slice ha (heldD X core).length hc]) ∧ DocTurn h L (putDS X core addr v) w w' ∧ w'.ownsRow w.heap.size 3 1 (.slice ha (heldD X core).length hc) (heldD X core).length ((heldD X core).map vI) := by
  have hhl : (heldD X core).length ≤ X.all.length := heldF_len _ _ _
  obtain ⟨d1, d2, d3, _, _, _⟩ := drD_len X core (heldD X core).length
  have f1 : (flushDS X core).all.length = X.all.length := d1
  have f2 : 0 ≤ (flushDS X core).stamps := by have : X.stamps ≤ (flushDS X core).stamps := d2; omega
  have f3 : (flushDS X core).stamps < 900000 := by have : (flushDS X core).stamps ≤ X.stamps + ((heldD X core).length : Nat) := d3; omega
  rw [putDS]
  generalize hY : flushDS X core = Y at f1 f2 f3
  generalize hl : heldD X core = l at hhl
  go_enter Try.func44, Try.ntmps44
  go_upto_region 2 with (go_at_call 42; refine (flushD_c h X L core _ H (by omega) hs0 (by omega)).mono ?_; rintro e w1 ⟨ha, hc, rfl, T, R⟩; dsimp only; rw [hY] at T; rw [hl] at R ⊢)
  obtain ⟨L1, M1, G1, F1⟩ := T
  have c4 := M1.c4
  have fz := frozen_of_row w1 h 4 _ _ M1.top
  have wst : IntKind.i64.wrap (Y.stamps + 1) = Y.stamps + 1 := by rw [IntKind.wrap_i64]; omega
  have M2 := M1.stamp (Y.stamps + 1)
  have G2 := G1.trans (goes_setCell w1 (F := DocFoot h L1) (.inl rfl) 4 (vI (Y.stamps + 1))) (fun k hk hf => by
    rcases F1 k hf with e | e
    · exact e
    · omega)
  have R2 : (w1.setCell ⟨h, 4, none⟩ (vI (Y.stamps + 1))).ownsRow w.heap.size 3 1 (.slice ha l.length hc) l.length (l.map vI) := own_of_block R fun k hk => Below.heap_setCell _ _ _ _ (fun e => by have e : k = h := e; subst e; exact M1.notRow R (by decide) hk (.inl rfl))
  go_upto_region 3 with fail
  generalize World.setCell w1 _ _ = w2 at M2 G2 R2 ⊢
  clear c4 fz M1 G1 R
  obtain ⟨Z, hZ⟩ : ∃ Z : Doc, Z = { Y with stamps := Y.stamps + 1 } := ⟨_, rfl⟩
  rw [← hZ] at M2
  have z1 : Z.all = Y.all := by rw [hZ]
  obtain ⟨st, hst0⟩ : ∃ st, st = Y.stamps + 1 := ⟨_, rfl⟩
  have z2 : Z.stamps = st := by rw [hZ, hst0]
  obtain ⟨r, hr⟩ : ∃ r : R4, r = ⟨core, addr, v, st⟩ := ⟨_, rfl⟩
  have hrv : (.agg #[vI core, vU addr, vU v, vI st] : Value) = .agg r.row.toArray := by rw [hr]; rfl
  have hlen : Z.all.length < 1000000 := by rw [z1]; omega
  have hst : PC h Z L1 r w2 w2.heap.size 0 none { w2 with drawn := w2.drawn + 1 } := ⟨⟨rfl, rfl, rfl, Nat.le_refl _, fun _ _ => rfl⟩, rfl⟩
  have hrd := fun (j : Nat) (ou : Option Value) (hj : j ≤ 2) (w' : World) (hp : PC h Z L1 r w2 w2.heap.size j ou w') => pc_reads M2 hj hp
  have hbuilt : Try.prog.built 102 [(0, vI core), (1, vU addr), (2, vU v), (3, vI st)] = some #[vI core, vU addr, vU v, vI st] := by kernel_rfl
  generalize hNN : w2.heap.size = N at hst hrd
  clear wst
  replace hr := show Hid _ from hr
  replace hst0 := show Hid _ from hst0
  replace hZ := show Hid _ from hZ
  replace hNN := show Hid _ from hNN
  refine Chn.wp_region_chainX (PC h Z L1 r w2 N) [13, 14, 17] [3, 3, 3, 3, 2, 3, 3, 3, 3, 3, 3, 2, 3, 3, 3, 3, 3, 3] 14 (fun u => [ptr h 0, ptr h 0, ptr h 0, ptr h 3, L1.av, vI core, vU addr, vU v, ptr h 0, ptr h 0, ptr h 4, vI st, .agg r.row.toArray, .slice (some ⟨N, 0, none⟩) 1 1, u, ptr h 0, ptr h 3, undef]) (by kernel_rfl) (by kernel_rfl) (by kernel_rfl) (by kernel_rfl) (by kernel_rfl) (by kernel_rfl) (fun v q hq => by match q, hq with | 0, _ => rfl | 1, _ => rfl | 2, _ => rfl | 3, _ => rfl | 4, _ => rfl | 5, _ => rfl | 6, _ => rfl | 7, _ => rfl | 8, _ => rfl | 9, _ => rfl | 10, _ => rfl | 11, _ => rfl | 12, _ => rfl | 13, _ => rfl | 15, _ => rfl | 16, _ => rfl | 17, _ => rfl | n + 18, _ => rfl) (fun v => rfl) (by decide) hst ?_
  intro u
  iterate 4 (refine ⟨fun j ou w1 hj hn hC => by exact Chn.upon_pure hC (fun F hF => by (go_simp <;> exact hF)), ?_⟩; simp only [Act.put, List.setIfInBounds_toArray, List.set_cons_succ, List.set_cons_zero])
  refine ⟨fun j ou w1 hj hn hC => by have z := (hrd j ou hj w1 hC).1; exact Chn.upon_pure hC (fun F hF => by (go_simp <;> exact hF)), ?_⟩
  simp only [Act.put, List.setIfInBounds_toArray, List.set_cons_succ, List.set_cons_zero]
  iterate 6 (refine ⟨fun j ou w1 hj hn hC => by exact Chn.upon_pure hC (fun F hF => by (go_simp <;> exact hF)), ?_⟩; simp only [Act.put, List.setIfInBounds_toArray, List.set_cons_succ, List.set_cons_zero])
  refine ⟨fun j ou w1 hj hn hC => by have z := (hrd j ou hj w1 hC).2.1; rw [z2] at z; exact Chn.upon_pure hC (fun F hF => by (go_simp <;> exact hF)), ?_⟩
  simp only [Act.put, List.setIfInBounds_toArray, List.set_cons_succ, List.set_cons_zero]
  refine ⟨fun j ou w1 hj hn hC => by
    exact chn_built 102 _ rfl _ (by simp only [List.map_toArray, List.map_cons, List.map_nil]; exact hbuilt) hrv hC, ?_⟩
  simp only [Act.put, List.setIfInBounds_toArray, List.set_cons_succ, List.set_cons_zero]
  refine ⟨fun ou w1 hn hC => by
    match ou, hC with
    | none, hC => exact chn_build4 hC.2 (.tmp 33) rfl r rfl ⟨below_then hC.1 (Nat.le_refl _) (below_alloc _ _), by rw [← hC.2]; exact heap_alloc_new _ _⟩, ?_⟩
  simp only [Act.put, List.setIfInBounds_toArray, List.set_cons_succ, List.set_cons_zero]
  refine ⟨fun w1 hC => by
    exact chn_app4 _ _ rfl L1.av Z.all rfl (M2.grow hC.1).all N 0 1 r rfl (fun j x hj => by rw [cell_of_row _ _ _ _ _ _ hC.2, Nat.zero_add]; simpa using hj) (by omega) (fun q cap w3 q1 q2 q3 => ⟨w1, q, cap, rfl, hC.1, q1, q2, q3⟩), ?_⟩
  simp only [Act.put, List.setIfInBounds_toArray, List.set_cons_succ, List.set_cons_zero]
  iterate 2 (refine ⟨fun j ou w1 hj hn hC => by exact Chn.upon_pure hC (fun F hF => by (go_simp <;> exact hF)), ?_⟩; simp only [Act.put, List.setIfInBounds_toArray, List.set_cons_succ, List.set_cons_zero])
  refine ⟨fun ou w1 hn hC => by
    obtain rfl := hn (by kernel_rfl)
    obtain ⟨z, _, zf⟩ := hrd 2 (some u) (by decide) w1 hC
    obtain ⟨wa, q, cap, rfl, hB, q1, q2, q3⟩ := hC
    exact chn_store 45 _ _ rfl h 3 rfl _ rfl (run_cell w1 45 h 3 _ _ info45 rfl rfl z zf) (M2.giveA hB q1 q2 q3).1, ?_⟩
  simp only [Act.put]
  intro w5 hC
  obtain ⟨L5, M5, G5, F5⟩ : DocTurn h L1 { Z with all := Z.all ++ [r] } w2 w5 := hC
  have c3 := M5.c3
  obtain ⟨aa, ac, ea, _, _⟩ := own_len M5.all
  rw [ea] at c3
  have hal : ({ Z with all := Z.all ++ [r] } : Doc).all.length = X.all.length + 1 := by show (Z.all ++ [r]).length = _; rw [List.length_append, z1, f1]; rfl
  rw [hal] at c3
  have R5 : w5.ownsRow w.heap.size 3 1 (.slice ha l.length hc) l.length (l.map vI) := own_of_block R2 fun k hk => G5.block k (R2.lt k hk).2 (M2.notRow R2 (by decide) hk)
  have hfin : DocTurn h L { Y with stamps := Y.stamps + 1, all := Y.all ++ [⟨core, addr, v, Y.stamps + 1⟩] } w w5 := by
    have e : ({ Y with stamps := Y.stamps + 1, all := Y.all ++ [⟨core, addr, v, Y.stamps + 1⟩] } : Doc) = { Z with all := Z.all ++ [r] } := by rw [hZ.out, hr.out, hst0.out]
    rw [e]
    refine ⟨L5, M5, G2.trans G5 (fun k hk hf => ?_), fun k hk => ?_⟩
    · rcases F1 k hf with e | e
      · exact e
      · omega
    · rcases F5 k hk with e | e
      · exact F1 k e
      · exact .inr (Nat.le_trans G2.size e)
  clear hZ hr hst0 M5 ea
  go_wp2
  go_ret2
  exact ⟨ha, hc, by simp, hfin, R5⟩
end Go.Proofs.Ytjkjbcnafpljoaa
