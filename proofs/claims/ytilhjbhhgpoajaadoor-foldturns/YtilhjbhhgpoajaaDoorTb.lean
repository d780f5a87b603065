/- A block is told. -/
import Derived.Test.YtilhjbhhgpoajaaDoorTa
import Derived.Test.YtilhjbhhgpoajaaDoorSh
import Derived.Test.YtilhjbhhgpoajaaDoorIg
namespace Go.Proofs.YtilhjbhhgpoajaaDoor
open Go.RowKit
set_option linter.unusedVariables false
set_option linter.unusedSimpArgs false
set_option maxRecDepth 8000

def rowS (dI dU : Int → ByteArray) (k : Nat) (o : Opr) : ByteArray := ((dI (k : Int) ++ ⟨#[32]⟩) ++ toldS dI dU o) ++ ⟨#[10]⟩
def linesS (dI dU : Int → ByteArray) (l : List Opr) : Nat → ByteArray
  | 0 => ⟨#[]⟩
  | k + 1 => linesS dI dU l k ++ rowS dI dU k (opAt l k)
theorem size1 (n : UInt8) : (⟨#[n]⟩ : ByteArray).size = 1 := rfl
theorem told_size {dI dU : Int → ByteArray} {o : Opr} (hd : ∀ n, (dI n).size ≤ 32) (hu : ∀ n, (dU n).size ≤ 32) : (toldS dI dU o).size ≤ 200 := by
  have h1 := line_size (o := o) hd 4
  have h2 := hu o.imm
  unfold toldS
  split
  · rw [ByteArray.size_append, ByteArray.size_append, size1]; omega
  · omega
theorem row_size {dI dU : Int → ByteArray} {k : Nat} {o : Opr} (hd : ∀ n, (dI n).size ≤ 32) (hu : ∀ n, (dU n).size ≤ 32) : (rowS dI dU k o).size ≤ 300 := by
  have h1 := told_size (o := o) hd hu
  have h2 := hd k
  unfold rowS
  rw [ByteArray.size_append, ByteArray.size_append, ByteArray.size_append, size1, size1]; omega
theorem lines_size {dI dU : Int → ByteArray} {l : List Opr} (hd : ∀ n, (dI n).size ≤ 32) (hu : ∀ n, (dU n).size ≤ 32) : ∀ k, (linesS dI dU l k).size ≤ 300 * k
  | 0 => Nat.le_refl _
  | k + 1 => by
    have := lines_size (l := l) hd hu k
    have := row_size (k := k) (o := opAt l k) hd hu
    unfold linesS
    rw [ByteArray.size_append]; omega
theorem strCells_append (a b : ByteArray) : Lib.strCells (a ++ b) = Lib.strCells a ++ Lib.strCells b := by
  unfold Lib.strCells
  rw [ByteArray.data_append, Array.toList_append, List.map_append]
theorem builder_grow {T e : TypeId} {B b : Nat} {p : Value} {bs : List Value} {w w' : World} (h : Lib.BuilderAt T e B b p bs w) (hb : Below w.heap.size w w') : Lib.BuilderAt T e B b p bs w' := by
  obtain ⟨h1, v, h2, h3, h4⟩ := h
  exact ⟨h1, v, by rw [hb.block _ (lt_of_some h2)]; exact h2, own_of_block h3 (fun k hk => hb.block k (h3.lt k hk).2), h4⟩
theorem isB_grow {T e : TypeId} {B b : Nat} {bs : List Value} {w w' : World} (h : Lib.IsBuilder T e B b bs w) (hb : Below w.heap.size w w') : Lib.IsBuilder T e B b bs w' := h.imp (fun h => builder_grow h hb) (fun h => builder_grow h hb)
/-- While a block is told. -/
structure TxI (w : World) (pc words el : Int) (v : Value) (l : List Opr) (b1 B b : Nat) (s : ByteArray) (x : World) : Prop where
  r1 : x.heap[b1]? = some (.cells (blA pc words el v) 25)
  ops : Ops x v l
  bld : Lib.IsBuilder BT 5 B b (Lib.strCells s) x
  below : Below w.heap.size w x
  hB : B ≤ x.heap.size
section
variable {w : World} {pc words el : Int} {v : Value} {l : List Opr} {b1 B b : Nat} {s : ByteArray}
theorem TxI.grow {x y : World} (h : TxI w pc words el v l b1 B b s x) (hb : Below x.heap.size x y) : TxI w pc words el v l b1 B b s y :=
  ⟨by rw [hb.block _ (lt_of_some h.r1)]; exact h.r1, h.ops.grow hb, isB_grow h.bld hb, below_then h.below (Nat.le_refl _) hb, Nat.le_trans h.hB hb.size⟩
theorem TxI.c3 {x : World} (h : TxI w pc words el v l b1 B b s x) : x.cell? ⟨b1, 3, none⟩ = some v := by rw [cell_of_row _ _ _ _ _ _ h.r1]; rfl
/-- Operations that lie below B stay. -/
def OpsLow (v : Value) (B : Nat) : Prop := ∀ ra n cap, v = .slice (some ra) n cap → 0 < n → ra.block < B
theorem TxI.wrote {x y : World} {t : ByteArray} (h : TxI w pc words el v l b1 B b s x) (hl : OpsLow v B) (h1 : b1 < B) (hw : w.heap.size ≤ B) (hb : Lib.BuilderAt BT 5 B b (ptr b 0) (Lib.strCells s ++ Lib.strCells t) y) (hB : Below B x y) : TxI w pc words el v l b1 B b (s ++ t) y := by
  refine ⟨by rw [hB.block _ h1]; exact h.r1, ?_, .inr (by rw [strCells_append]; exact hb), h.below.trans ⟨hB.os, hB.tape, hB.output, hB.size, fun k hk => hB.block k (by omega)⟩, Nat.le_trans h.hB hB.size⟩
  refine ⟨h.ops.len, h.ops.max, fun h0 => ?_⟩
  obtain ⟨ra, cap, e, hc⟩ := h.ops.cell h0
  have hlt := hl ra _ cap e h0
  refine ⟨ra, cap, e, fun i o ho => (hc i o ho).keep ?_ ?_⟩
  · exact Nat.lt_of_lt_of_le (hc i o ho).lt hB.size
  · have e1 : (ra.add (i * 6)).block = ra.block := by unfold Addr.add; split <;> rfl
    rw [e1]; exact hB.block _ hlt
end
theorem upon_cat {C : World → Prop} {w : World} (p q : ByteArray) {o : Oper} {a : Act} {x y : Operand} (hC : C w) (hl : p.size + q.size ≤ 100000) (ho : o.op = .binOp .add 9 x y 9 := by rfl) (hx : a.eval x = .string p := by rfl) (hy : a.eval y = .string q := by rfl) : Chn.upon Tryd.prog (fun v w' => v = .string (p ++ q) ∧ C w') w ((execOp a.eval o).run Tryd.prog w) := by
  rw [exec_cat ho p q hx hy hl]
  exact ⟨rfl, hC⟩

structure TxP (w : World) (pc words el : Int) (v : Value) (l : List Opr) (b1 B b : Nat) (s r : ByteArray) (t : Nat) (O : Opr) (j : Nat) (x : World) : Prop where
  a : j ≤ 2 → TxI w pc words el v l b1 B b s x ∧ LocO t O x
  b : j = 3 → TxI w pc words el v l b1 B b (s ++ r) x
theorem TxP.keep {w : World} {pc words el : Int} {v : Value} {l : List Opr} {b1 B b t j i : Nat} {s r : ByteArray} {O : Opr} {x y : World} (h : TxP w pc words el v l b1 B b s r t O j x) (hj : j ≤ 2) (hi : i ≤ 2) (hb : Below x.heap.size x y) : TxP w pc words el v l b1 B b s r t O i y :=
  ⟨fun _ => ⟨(h.a hj).1.grow hb, (h.a hj).2.grow hb⟩, fun e => absurd hi (by omega)⟩
set_option maxHeartbeats 8000000 in
theorem text_c {w : World} {pc words el : Int} {v : Value} {l : List Opr} {dI dU : Int → ByteArray} (hpc : 0 ≤ pc) (O : Ops w v l) (himm : ∀ k, 0 ≤ (opAt l k).imm) (hcap : ∀ ao n cap, v = .slice ao n cap → n ≤ cap) (hR : rightB pc words el l = true)
    (hT : ∀ k, k < l.length → ∀ w1, Below w.heap.size w w1 → Tells w1 (opAt l k) dI dU ∧ Calls Tryd.prog 17 #[vI (k : Int)] w1 fun e w' => e = .returned (.string (dI (k : Int))) ∧ Below w1.heap.size w1 w') :
    Calls Tryd.prog 8 #[blV pc words el v] w fun e w' => e = .returned (.tuple #[.string (linesS dI dU l l.length), vI 0]) ∧ Below w.heap.size w w' := by
  have hH : headB pc words el l = true := by unfold rightB at hR; rw [Bool.and_eq_true] at hR; exact hR.1
  have hOB : opsB l = true := by unfold rightB at hR; rw [Bool.and_eq_true] at hR; exact hR.2
  obtain ⟨h0, hl⟩ := headB_len hH
  obtain ⟨sI, sU⟩ : (∀ n, (dI n).size ≤ 32) ∧ (∀ n, (dU n).size ≤ 32) := ⟨(hT 0 h0 w (Below.refl _ _)).1.si, (hT 0 h0 w (Below.refl _ _)).1.su⟩
  have hb := below_alloc w (.cells (blA pc words el v) 25)
  have r1 : (w.alloc (.cells (blA pc words el v) 25)).heap[w.heap.size]? = some (.cells (blA pc words el v) 25) := heap_alloc_new _ _
  have O1 := O.grow hb
  have k1 := right_c (words := words) (el := el) hpc O1 himm hcap
  rw [hR] at k1
  obtain ⟨ao, cap, ev⟩ := O.len
  subst ev
  have hlow : ∀ B, w.heap.size ≤ B → OpsLow (.slice ao l.length cap) B := fun B hB ra n cap' e hn => by
    obtain ⟨ra2, cap2, e2, hc⟩ := O.cell h0
    rw [e2] at e; cases e
    have := (hc 0 _ (opAt_some h0)).lt
    have e1 : (ra.add (0 * 6)).block = ra.block := by unfold Addr.add; split <;> rfl
    rw [e1] at this
    omega
  go_enter Tryd.func8, Tryd.ntmps8
  go_upto_region 1 with fail
  generalize w.alloc (.cells (blA pc words el (.slice ao l.length cap)) 25) = w1 at *
  go_upto_region 3 with (first | ((with_reducible refine wpList_load_if rfl 25 _ rfl _ rfl 25 _ (0, 0) _ r1 Tryd.underlying25 rfl (bl_inf _ _ _ _) ?_); simp only [Act.put, List.setIfInBounds_toArray, List.set_cons_succ, List.set_cons_zero]) | (go_at_call 6; (with_reducible refine k1.mono ?_); clear k1; rintro e w2 ⟨rfl, B2⟩; dsimp only))
  have hb2 := below_then hb (Nat.le_refl _) B2
  have X0 : TxI w pc words el (.slice ao l.length cap) l w.heap.size w2.heap.size w2.heap.size ⟨#[]⟩ (w2.alloc (.cells #[.pointer none, .slice none 0 0] BT)) := by
    have ha := below_alloc w2 (.cells #[.pointer none, .slice none 0 0] BT)
    refine ⟨?_, (O1.grow B2).grow ha, .inl ⟨Nat.le_refl _, .slice none 0 0, heap_alloc_new _ _, ⟨rfl, .inl ⟨rfl, rfl⟩⟩, by simp [Value.ownBlock]⟩, below_then hb2 (Nat.le_refl _) ha, ha.size⟩
    have hr2 : w2.heap[w.heap.size]? = some (.cells (blA pc words el (.slice ao l.length cap)) 25) := by rw [B2.block _ (lt_of_some r1)]; exact r1
    rw [ha.block _ (lt_of_some hr2)]; exact hr2
  have hB1 : w.heap.size < w2.heap.size := Nat.lt_of_lt_of_le (lt_of_some r1) B2.size
  have hlw := hlow w2.heap.size (Nat.le_of_lt hB1)
  have z3 := X0.c3
  go_wp2
  generalize w2.alloc (.cells #[.pointer none, .slice none 0 0] BT) = w3 at *
  generalize w2.heap.size = B at *
  clear z3 hlow r1 O1 hb B2 hb2
  go_loopw [13] (fun s13 wr => ∃ k : Nat, k ≤ l.length ∧ s13 = vI k ∧ TxI w pc words el (.slice ao l.length cap) l w.heap.size B B (linesS dI dU l k) wr) (fun s13 _ => ((l.length : Int) - intOf s13).toNat)
  case atStart => exact ⟨0, Nat.zero_le _, rfl, X0⟩
  case round =>
    clear X0
    obtain ⟨k, hk, rfl, X⟩ := hrel
    by_cases hlt : (k : Int) < l.length
    · have hkl : k < l.length := by omega
      obtain ⟨ra, cap', ev', hc⟩ := X.ops.cell h0
      cases ev'
      have A := hc k _ (opAt_some hkl)
      have hok := okK (ops_at hOB hkl)
      have hTk := fun x hx => hT k hkl x hx
      have hls : linesS dI dU l (k + 1) = linesS dI dU l k ++ rowS dI dU k (opAt l k) := rfl
      have hsz := lines_size (l := l) sI sU k
      generalize opAt l k = O at *
      have t1 := told_size (o := O) sI sU
      have t2 := sI (k : Int)
      have t3 := row_size (k := k) (o := O) sI sU
      clear hc
      go_upto_region 7 with (first | ((with_reducible refine wpList_load42 rfl _ rfl _ rfl O A ?_); simp only [Act.put, List.setIfInBounds_toArray, List.set_cons_succ, List.set_cons_zero]))
      have X1 := X.grow (below_alloc wr (.cells (opA O) 37))
      have L1 := LocO.new wr O
      generalize wr.alloc (.cells (opA O) 37) = w4 at *
      generalize wr.heap.size = t at *
      clear A
      have hst : (TxP w pc words el (.slice (some ra) l.length cap) l w.heap.size B B (linesS dI dU l k) (rowS dI dU k O) t O) 0 _ := ⟨fun _ => ⟨X1.grow (below_dr _), L1.grow (below_dr _)⟩, fun h => absurd h (by decide)⟩
      refine Chn.wp_region_chainL (TxP w pc words el (.slice (some ra) l.length cap) l w.heap.size B B (linesS dI dU l k) (rowS dI dU k O) t O) [1, 4, 7] [3, 3, 3, 1, 3, 3, 3, 3] [vI (k : Int), .string (dI (k : Int)), .string (dI (k : Int) ++ ⟨#[32]⟩), opV O, .string (toldS dI dU O), .string ((dI (k : Int) ++ ⟨#[32]⟩) ++ toldS dI dU O), .string (rowS dI dU k O), .tuple #[.int .i64 (rowS dI dU k O).size, .nilIface]] (by kernel_rfl) (by kernel_rfl) (by kernel_rfl) (by kernel_rfl) (by kernel_rfl) hst ?_
      clear hst
      refine ⟨fun j w1 hj hC => by exact Chn.upon_pure hC (fun F hF => by (go_simp <;> exact hF)), ?_⟩
      simp only [Act.put, List.setIfInBounds_toArray, List.set_cons_succ, List.set_cons_zero]
      refine ⟨fun w1 hC => by
        exact Chn.upon_call (C := (TxP w pc words el (.slice (some ra) l.length cap) l w.heap.size B B (linesS dI dU l k) (rowS dI dU k O) t O) 1) (hTk w1 (hC.a (by decide)).1.below).2 (fun e2 w2 hh => ⟨hh.1, hC.keep (by decide) (by decide) hh.2⟩) (fun F hF => by (go_simp <;> exact hF)), ?_⟩
      simp only [Act.put, List.setIfInBounds_toArray, List.set_cons_succ, List.set_cons_zero]
      refine ⟨fun j w1 hj hC => by
        exact upon_cat _ _ hC (by rw [size1]; omega), ?_⟩
      simp only [Act.put, List.setIfInBounds_toArray, List.set_cons_succ, List.set_cons_zero]
      refine ⟨fun j w1 hj hC => by
        exact upon_load42 (hC.a (Nat.le_trans hj (by decide))).2.at_ hC, ?_⟩
      simp only [Act.put, List.setIfInBounds_toArray, List.set_cons_succ, List.set_cons_zero]
      refine ⟨fun w1 hC => by
        exact Chn.upon_call (C := (TxP w pc words el (.slice (some ra) l.length cap) l w.heap.size B B (linesS dI dU l k) (rowS dI dU k O) t O) 2) (ttold_c O hok (hTk w1 (hC.a (by decide)).1.below).1) (fun e2 w2 hh => ⟨hh.1, hC.keep (by decide) (by decide) hh.2⟩) (fun F hF => by (go_simp <;> exact hF)), ?_⟩
      simp only [Act.put, List.setIfInBounds_toArray, List.set_cons_succ, List.set_cons_zero]
      refine ⟨fun j w1 hj hC => by
        exact upon_cat _ _ hC (by rw [ByteArray.size_append, size1]; omega), ?_⟩
      simp only [Act.put, List.setIfInBounds_toArray, List.set_cons_succ, List.set_cons_zero]
      refine ⟨fun j w1 hj hC => by
        exact upon_cat _ _ hC (by rw [ByteArray.size_append, ByteArray.size_append, size1, size1]; omega), ?_⟩
      simp only [Act.put, List.setIfInBounds_toArray, List.set_cons_succ, List.set_cons_zero]
      refine ⟨fun w1 hC => by
        exact Chn.upon_call (C := (TxP w pc words el (.slice (some ra) l.length cap) l w.heap.size B B (linesS dI dU l k) (rowS dI dU k O) t O) 3) (writeString_c B B _ _ w1 (hC.a (by decide)).1.bld (by rw [Lib.strCells_length]; omega) (hC.a (by decide)).1.hB) (fun e2 w2 hh => ⟨hh.1, ⟨fun h => absurd h (by decide), fun _ => (hC.a (by decide)).1.wrote hlw hB1 (Nat.le_of_lt hB1) hh.2.1 hh.2.2⟩⟩) (fun F hF => by (go_simp <;> exact hF)), ?_⟩
      simp only [Act.put, List.setIfInBounds_toArray, List.set_cons_succ, List.set_cons_zero]
      intro w5 hC
      have X5 := hC.b rfl
      rw [← hls] at X5
      clear hC
      go_wp2
      go_roundw
      case rel => exact ⟨k + 1, by omega, by simp, X5⟩
      case measure => simp [intOf]; omega
    · have hke : k = l.length := by omega
      subst hke
      have hne : (linesS dI dU l l.length).data.toList ≠ [] := by
        intro e
        have h1 : (linesS dI dU l l.length).size = 0 := by
          show (linesS dI dU l l.length).data.size = 0
          rw [← Array.length_toList, e]; rfl
        obtain ⟨m, hm⟩ : ∃ m, l.length = m + 1 := ⟨l.length - 1, by omega⟩
        rw [hm] at h1
        have h2 : (linesS dI dU l (m + 1)).size = (linesS dI dU l m).size + (rowS dI dU m (opAt l m)).size := by
          show (linesS dI dU l m ++ rowS dI dU m (opAt l m)).size = _
          rw [ByteArray.size_append]
        have h3 : 1 ≤ (rowS dI dU m (opAt l m)).size := by
          unfold rowS
          rw [ByteArray.size_append, size1]; omega
        omega
      have k24 := builderString_c B B _ wr (by rw [← Lib.strCells_eq]; exact X.bld) hne
      have hst : (.string ⟨(linesS dI dU l l.length).data.toList.toArray⟩ : Value) = .string (linesS dI dU l l.length) := by
        rw [Array.toArray_toList]
      rw [hst] at k24
      generalize hLS : linesS dI dU l l.length = LS at *
      go_wp2_with (first | (go_at_call 19; (with_reducible refine k24.mono ?_); clear k24; rintro e w5 ⟨rfl, B5⟩; dsimp only))
      go_ret2
      exact ⟨by first | rfl | (rw [hLS]; rfl), X.below.trans ⟨B5.os, B5.tape, B5.output, B5.size, fun j hj => B5.block j (by omega)⟩⟩
end Go.Proofs.YtilhjbhhgpoajaaDoor
