/- A go over a block: the walk. -/
import Derived.Test.YtilhjbhhgpoajaaDoorUk
namespace Go.Proofs.YtilhjbhhgpoajaaDoor
open Go.RowKit
set_option linter.unusedVariables false
set_option linter.unusedSimpArgs false
set_option maxRecDepth 8000

theorem made_zeroI (n : Nat) : madeCells #[vI 0] n = prow [] n := by
  apply Array.ext
  · simp [madeCells, prow]
  · intro i h1 h2
    simp [madeCells, prow]
    rw [Nat.mod_one]
    rfl
theorem info3p : (Tryd.prog.info? 3).map (fun i => (i.zero, i.size, i.bytes)) = some (some (vI 0), 1, 8) := by kernel_rfl
theorem run_mkI (w : World) (n : Nat) (hn : n ≤ 512) : (Instr.makeSlice 59 (vI n) (vI n)).run Tryd.prog w = .ok (.slice (some ⟨w.heap.size, 0, none⟩) n n) (w.alloc (.cells (prow [] n) 3)) := by
  obtain ⟨i, h1, h2, h3, h4⟩ := info_parts info3p
  have hr := run_makeSlice (P := Tryd.prog) w 59 3 i (vI 0) Tryd.underlying59 h1 h2 .i64 .i64 n n (by omega) (by omega) (by rw [h3, Int.toNat_natCast]; omega) (by rw [h4]; omega) (by omega)
  rw [Int.toNat_natCast, h3, Nat.mul_one] at hr
  rw [← made_zeroI]
  exact hr
theorem wpList_mkI {ops : Array Oper} {rest : List Oper} {o : Oper} {a : Act} {w : World} {Q : Exit → Act → World → Prop} (hg : o.guard = none) (x : Operand) (ho : o.op = .makeSlice 59 x x) {n : Nat} (hn : n ≤ 512) (hx : a.eval x = vI n)
    (h : wpList Tryd.prog ops Q rest (a.put o.dst (.slice (some ⟨w.heap.size, 0, none⟩) n n)) (w.alloc (.cells (prow [] n) 3))) : wpList Tryd.prog ops Q (o :: rest) a w :=
  wpList_plain hg fun _ hK => by
    unfold Oper.wp execOp
    simp only [ho, hx, Sem.run_bind, Sem.run_pure, run_mkI w n hn, Result.andThen_ok]
    exact hK _ _ h
theorem wpList_store_newN {w0 : World} {L : List (Nat × Array Value × TypeId)} {ops : Array Oper} {rest : List Oper} {o : Oper} {a : Act} {w : World} {Z : Array Value} {N : Nat} {Q : Exit → Act → World → Prop} (H : Has w0 L w) (hN : w.heap.size = N) (hgd : o.guard = none) (t : TypeId) (x y : Operand) (ho : o.op = .store t x y)
    (d : Array Value) (hx : a.eval x = .pointer (some ⟨N, 0, none⟩)) (hy : a.eval y = .agg d) (hi : (Tryd.prog.info? t).map (·.size) = some d.size) (hZ : Z.size = d.size) (h1 : d.all (·.oneCell') = true)
    (h : ∀ w2, Has w0 ((N, d, t) :: L) w2 → wpList Tryd.prog ops Q rest (a.put o.dst undef) w2) : wpList Tryd.prog ops Q (o :: rest) a (w.alloc (.cells Z t)) := by
  subst hN
  exact wpList_store_row hgd t x y ho _ _ hx hy t _ (heap_alloc_new _ _) hi hZ h1 (h _ (H.add t d Z))
/-- A go under way: where it stands behind i operations. -/
structure LQ (w : World) (v : Value) (l : List Opr) (G : Fh) (pb i : Nat) (wr : World) : Prop where
  at_ : ∃ u, FoAt G i (foS l i).1 u wr ∧ Apart G u pb
  row : wr.heap[pb]? = some (.cells (prow (foS l i).2 l.length) 3)
  below : Below w.heap.size w wr
  go : (foS l i).1.left = false
theorem FoAt.other {G : Fh} {c : Nat} {S : Fo} {u : Value} {w w2 : World} (h : FoAt G c S u w) {b : Nat} (a : Apart G u b) (hs : w.heap.size ≤ w2.heap.size) (e : ∀ k, k ≠ b → w2.heap[k]? = w.heap[k]?) : FoAt G c S u w2 :=
  ⟨(e _ (Ne.symm a.p)).trans h.top, (e _ (Ne.symm a.v)).trans h.var, own_of_block h.own (fun k hk => e k (fun q => a.u (q ▸ hk))), h.map.keep (e _ (Ne.symm a.m)), Nat.le_trans h.hB hs, h.hp, h.hv, h.hm⟩
theorem foOk_nil (l : List Opr) : FoOk l 0 Fo.nil [] := ⟨rfl, Nat.le_refl _, fun h => absurd h (by decide), fun i h => absurd h (by omega), rfl, fun a r v e => (by cases e), fun h => absurd h (by decide), fun j => by rw [show Fo.nil.laid = [] from rfl, opAt_out (by simp)]; exact u_nil⟩
theorem foOk_go {pc words el : Int} {l : List Opr} (h : rightB pc words el l = true) (hu : ∀ k, U64 (opAt l k).imm) {k : Nat} (hk : k ≤ l.length) (hg : (foS l k).1.left = false) : FoOk l k (foS l k).1 (foS l k).2 := by
  cases k with
  | zero => exact foOk_nil l
  | succ k =>
    refine foOk_all h hu (k + 1) (by omega) hk ?_
    cases e : (foS l k).1.left with
    | false => exact e
    | true => rw [foS_stop e (k + 1) (by omega), e] at hg; cases hg
theorem okP_idx {l : List Opr} {k : Nat} (P : OkP l k) (hk : k < l.length) : ∃ qa qb : Nat, (opAt l k).a = qa ∧ (opAt l k).b = qb ∧ qa < l.length ∧ qb < l.length := by
  obtain ⟨h1, h2⟩ := okP_ab P
  have e1 : ∃ qa : Nat, (opAt l k).a = qa ∧ qa < l.length := by
    cases e : hasP (opAt l k).kind 2 with
    | false => exact ⟨0, h1 e, by omega⟩
    | true => obtain ⟨a1, a2, _⟩ := P.a e; exact ⟨(opAt l k).a.toNat, by omega, by omega⟩
  have e2 : ∃ qb : Nat, (opAt l k).b = qb ∧ qb < l.length := by
    cases e : hasP (opAt l k).kind 4 with
    | false => exact ⟨0, h2 e, by omega⟩
    | true => obtain ⟨a1, a2, _⟩ := P.b e; exact ⟨(opAt l k).b.toNat, by omega, by omega⟩
  obtain ⟨qa, a1, a2⟩ := e1
  obtain ⟨qb, b1, b2⟩ := e2
  exact ⟨qa, qb, a1, b1, a2, b2⟩
section
variable {l : List Opr} {w : World} {v : Value}
set_option maxHeartbeats 8000000 in
theorem layAnew_c {pc words el : Int} (O : Ops w v l) (hr : rightB pc words el l = true) (hu : ∀ k, U64 (opAt l k).imm) : Calls Tryd.prog 14 #[v] w fun e w' => ∃ u, e = .returned u ∧ w'.ownsRow w.heap.size 37 6 u (layAll l).length (opF (layAll l)) ∧ Below w.heap.size w w' := by
  obtain ⟨h0, h512, -⟩ := right_first hr
  obtain ⟨ra, cap, rfl, hops⟩ := O.cell h0
  go_enter Tryd.func14, Tryd.ntmps14
  go_upto_region 2 with fail
  have hmm := @run_makeMap Tryd.prog
  have b1 := below_alloc w (.cells #[.slice none 0 0] 23)
  have v1 := heap_alloc_new w (.cells #[.slice none 0 0] 23)
  have s1 : (w.alloc (.cells #[.slice none 0 0] 23)).heap.size = w.heap.size + 1 := World.size_alloc _ _
  generalize w.alloc (.cells #[.slice none 0 0] 23) = w1 at *
  have b2 := below_alloc w1 (.map #[] 0)
  have m2 : MapF Tryd.prog 75 w1.heap.size 0 (fun _ => none) (w1.alloc (.map #[] 0)) := MapF.made w1 _ _
  have s2 : (w1.alloc (.map #[] 0)).heap.size = w.heap.size + 2 := by rw [World.size_alloc, s1]
  replace s1 := show Hid _ from s1
  replace s2 := show Hid _ from s2
  have hsz : (w1.alloc (.map #[] 0)).heap.size = w1.heap.size + 1 := World.size_alloc _ _
  have Hn := has_none (w1.alloc (.map #[] 0))
  have one : (passA ⟨w1.heap.size + 1, w.heap.size, w1.heap.size, w.heap.size + 3⟩ Fo.nil).all (·.oneCell') = true := by simp [passA, Value.oneCell']
  have pinf : (Tryd.prog.info? 65).map (·.size) = some (passA ⟨w1.heap.size + 1, w.heap.size, w1.heap.size, w.heap.size + 3⟩ Fo.nil).size := by
    show (Tryd.prog.info? 65).map (·.size) = some 4
    kernel_rfl
  go_upto_region 3 with (first | ((with_reducible refine wpList_built rfl 65 _ rfl (passA ⟨w1.heap.size + 1, w.heap.size, w1.heap.size, w.heap.size + 3⟩ Fo.nil) (by kernel_rfl) ?_); simp only [Act.put, List.setIfInBounds_toArray, List.set_cons_succ, List.set_cons_zero]) | ((with_reducible refine wpList_store_newN Hn hsz rfl 65 _ _ rfl (passA ⟨w1.heap.size + 1, w.heap.size, w1.heap.size, w.heap.size + 3⟩ Fo.nil) rfl rfl pinf (by kernel_rfl) one ?_); clear Hn; intro w3 Hn; simp only [Act.put, List.setIfInBounds_toArray, List.set_cons_succ, List.set_cons_zero]))
  have hp := Hn.get List.mem_cons_self
  have hlo := Hn.below
  generalize hG : (⟨w1.heap.size + 1, w.heap.size, w1.heap.size, w.heap.size + 3⟩ : Fh) = G at *
  have A0 : FoAt G 0 Fo.nil (.slice none 0 0) w3 := by
    subst hG
    refine ⟨hp, keepRow (keepRow v1 b2) hlo, World.ownsRow_nil _ _ _ _, ⟨_, 0, (m2.keep (hlo.block _ ?_)), Nat.le_refl _, fun _ _ _ _ => rfl⟩, ?_, ?_, ?_, ?_⟩
    · rw [World.size_alloc]; omega
    · have := lt_of_some hp; have q := s1.out; have this : w1.heap.size + 1 < _ := this; show w.heap.size + 3 ≤ _; omega
    · show w1.heap.size + 1 < w.heap.size + 3; rw [s1.out]; omega
    · show w.heap.size < w.heap.size + 3; omega
    · show w1.heap.size < w.heap.size + 3; rw [s1.out]; omega
  have eG : G.p = w.heap.size + 2 ∧ G.v = w.heap.size ∧ G.m = w.heap.size + 1 ∧ G.B = w.heap.size + 3 := by subst hG; exact ⟨by show w1.heap.size + 1 = _; rw [s1.out], rfl, s1.out, rfl⟩
  have B3 : Below w.heap.size w w3 := below_then (below_then b1 (Nat.le_refl _) b2) (Nat.le_refl _) hlo
  have ep : w1.heap.size + 1 = G.p := by rw [← hG]
  rw [ep]
  have hv : w.heap.size = G.v := eG.2.1.symm
  clear hmm b1 v1 b2 m2 s1 s2 hsz hlo hG one pinf Hn hp ep
  generalize w1.heap.size = m1
  generalize passA G Fo.nil = pz
  go_upto_region 4 with ((with_reducible refine wpList_mkI rfl _ rfl h512 rfl ?_); simp only [Act.put, List.setIfInBounds_toArray, List.set_cons_succ, List.set_cons_zero])
  have b4 := below_alloc w3 (.cells (prow [] l.length) 3)
  have apP : Apart G (.slice none 0 0) w3.heap.size := A0.apart (Nat.le_refl _)
  have Q0 : Hid (LQ w (.slice (some ra) l.length cap) l G w3.heap.size 0 (w3.alloc (.cells (prow [] l.length) 3))) := ⟨⟨_, A0.grow b4, apP⟩, heap_alloc_new _ _, below_then B3 (Nat.le_refl _) b4, rfl⟩
  have hBw : G.B = w.heap.size + 3 := eG.2.2.2
  have hGp := eG.1
  have hGm := eG.2.2.1
  have hpb : w.heap.size ≤ w3.heap.size := B3.size
  clear A0 B3 b4 apP eG
  generalize w3.alloc (.cells (prow [] l.length) 3) = w4 at *
  generalize w3.heap.size = pb at *
  replace hv := show Hid _ from hv
  replace hBw := show Hid _ from hBw
  replace hGp := show Hid _ from hGp
  replace hGm := show Hid _ from hGm
  replace hpb := show Hid _ from hpb
  go_wp2
  go_loopw [17] (fun s17 wr => ∃ i : Nat, s17 = .int .i64 i ∧ i ≤ l.length ∧ Hid (LQ w (.slice (some ra) l.length cap) l G pb i wr)) (fun s17 _ => l.length - (intOf s17).toNat)
  case atStart => exact ⟨0, rfl, Nat.zero_le _, Q0⟩
  case round =>
    obtain ⟨i, rfl, hi, hQ⟩ := hrel
    clear Q0
    by_cases hlt : (i : Int) < l.length
    · have q := hQ.out
      clear hQ
      obtain ⟨⟨u, A, ap⟩, hrow, hbel, hgo⟩ := q
      have hil : i < l.length := by omega
      have P := right_ok hr hil
      have FK := foOk_go hr hu hi hgo
      obtain ⟨qa, qb, ha, hb, hqa, hqb⟩ := okP_idx P hil
      have Ao := (hops i _ (opAt_some hil)).grow hbel
      have Hn := has_none wr
      have hnext := foS_go hgo
      go_upto_region 7 with (first | ((with_reducible refine wpList_load42 rfl _ rfl _ rfl _ Ao ?_); simp only [Act.put, List.setIfInBounds_toArray, List.set_cons_succ, List.set_cons_zero]) | ((with_reducible refine wpList_store_new Hn rfl 37 _ _ rfl (opA (opAt l i)) rfl rfl (op_inf _) (by kernel_rfl) (op_one _) ?_); clear Hn; intro w5 Hn; simp only [Act.put, List.setIfInBounds_toArray, List.set_cons_succ, List.set_cons_zero]))
      have L5 : LocO wr.heap.size (opAt l i) w5 := Hn.get List.mem_cons_self
      have A5 := A.grow Hn.below
      have hrow5 := keepRow hrow Hn.below
      have hbel5 := below_then hbel (Nat.le_refl _) Hn.below
      have kt := told_c (pb := pb) (n := l.length) (ps := (foS l i).2) hrow5 ha hb hqa hqb
      have AL := L5.at_
      clear Hn A hrow hbel Ao L5
      generalize wr.heap.size = t7 at *
      have hlen : (foS l i).2.length = i := FK.len
      have hLO := FK.layOk P
      have hLl := FK.le
      have ho' : ∃ o' : Opr, o' = toldO (opAt l i) (foS l i).2 := ⟨_, rfl⟩
      obtain ⟨o', ho'⟩ := ho'
      rw [← ho'] at kt hLO hnext
      have kl := fun (x : World) (Ax : FoAt G i (foS l i).1 u x) => lay_c Ax o' hLO (by omega) (by omega)
      replace hnext := show Hid _ from hnext
      replace hlen := show Hid _ from hlen
      clear ho' hLO FK hgo ha hb hqa hqb hLl
      generalize hS : (foS l i).1 = S at *
      generalize hps : (foS l i).2 = ps at *
      go_upto_region 8 with (first | ((with_reducible refine wpList_load42 rfl _ rfl _ rfl _ AL ?_); simp only [Act.put, List.setIfInBounds_toArray, List.set_cons_succ, List.set_cons_zero]) | (go_at_call 29; (with_reducible refine kt.mono ?_); clear kt; rintro e w6 ⟨rfl, B6⟩; dsimp only; have k6 := kl w6 (A5.grow B6); have r6 := keepRow hrow5 B6; have b6 := below_then hbel5 (Nat.le_refl _) B6) | (go_at_call 28; (with_reducible refine k6.mono ?_); clear k6; rintro e w7 ⟨rfl, u7, F7⟩; dsimp only; have r7 := F7.keeps ap r6; have hlt7 := lt_of_some r6; have c7 : w7.cell? ⟨pb, i, none⟩ = some (vI ((ps.getD i 0 : Nat) : Int)) := (by rw [cell_of_row _ _ _ _ _ _ r7, prow_at hil]); have f7 : w7.frozen? ⟨pb, i, none⟩ = false := frozen_of_row _ _ _ _ _ r7) | ((with_reducible refine wpList_storeC rfl 3 _ _ rfl pb i rfl (vI ((S.lay o').2 : Nat)) rfl inf3 rfl rfl c7 f7 ?_); simp only [Act.put, List.setIfInBounds_toArray, List.set_cons_succ, List.set_cons_zero]))
      have ap7 := F7.apart ap hlt7
      have e8 : ∀ k, k ≠ pb → (w7.setCell ⟨pb, i, none⟩ (vI ((S.lay o').2 : Nat))).heap[k]? = w7.heap[k]? := fun k hk => Below.heap_setCell _ _ _ _ (by exact hk)
      have s8 : w7.heap.size = (w7.setCell ⟨pb, i, none⟩ (vI ((S.lay o').2 : Nat))).heap.size := by simp [World.setCell]
      have A8 := F7.at_.other ap7 (Nat.le_of_eq s8) e8
      have r8 : (w7.setCell ⟨pb, i, none⟩ (vI ((S.lay o').2 : Nat))).heap[pb]? = some (.cells (prow (ps ++ [(S.lay o').2]) l.length) 3) := by
        rw [heap_setCell_same w7 pb i _ 3 _ r7]
        have := prow_set ps l.length (S.lay o').2
        rw [hlen.out] at this
        rw [this]
      have hFB : ∀ k, k < w6.heap.size → G.F u k → w.heap.size ≤ k := fun k _ hk => by
        have h1 := hGp.out; have h2 := hv.out; have h3 := hGm.out; have h4 := hBw.out
        rcases hk with hk | hk | hk | hk
        · omega
        · omega
        · omega
        · have := (A5.own.lt k hk).1; omega
      have b7 : Below w.heap.size w w7 := ⟨F7.goes.os.trans b6.os, F7.goes.tape.trans b6.tape, F7.goes.output.trans b6.output, Nat.le_trans b6.size F7.goes.size, fun k hk => (F7.goes.block k (Nat.lt_of_lt_of_le hk b6.size) (fun hf => by have := hFB k (Nat.lt_of_lt_of_le hk b6.size) hf; omega)).trans (b6.block k hk)⟩
      have b8 : Below w.heap.size w (w7.setCell ⟨pb, i, none⟩ (vI ((S.lay o').2 : Nat))) := b7.trans ⟨rfl, rfl, rfl, Nat.le_of_eq s8, fun k hk => e8 k (by have := hpb.out; omega)⟩
      clear e8 s8 hFB b7 r7 hlt7 c7 f7 F7 B6 r6 b6 hrow5 hbel5 A5 kl AL ap
      generalize w7.setCell ⟨pb, i, none⟩ (vI ((S.lay o').2 : Nat)) = w8 at *
      have z3 := A8.c3
      have zv := A8.cv
      rw [← hv.out] at zv
      cases hlf : (S.lay o').1.left with
      | true =>
        rw [hlf] at z3
        have hown := own_mono A8.own (base' := w.heap.size) (by rw [hBw.out]; omega)
        have e : (S.lay o').1.laid = layAll l := by
          unfold layAll
          rw [foS_stop (k := i + 1) (by rw [hnext.out]; exact hlf) l.length (by omega), hnext.out]
        rw [e] at hown
        clear A8 r8 hlf e hnext
        go_wp2
        go_ret
        exact ⟨u7, rfl, hown, b8⟩
      | false =>
        rw [hlf] at z3
        go_wp2
        go_roundw
        case rel => exact ⟨i + 1, by go_num, by omega, ⟨⟨u7, by rw [hnext.out]; exact A8, ap7⟩, by rw [hnext.out]; exact r8, b8, by rw [hnext.out]; exact hlf⟩⟩
        case measure => simp [intOf]; omega
    · obtain rfl : i = l.length := by omega
      have q := hQ.out
      clear hQ
      obtain ⟨⟨u, A, ap⟩, hrow, hbel, hgo⟩ := q
      have z := A.cv
      rw [← hv.out] at z
      have hown := own_mono A.own (base' := w.heap.size) (by rw [hBw.out]; omega)
      go_wp2
      go_ret
      exact ⟨u, rfl, hown, hbel⟩
end
end Go.Proofs.YtilhjbhhgpoajaaDoor
