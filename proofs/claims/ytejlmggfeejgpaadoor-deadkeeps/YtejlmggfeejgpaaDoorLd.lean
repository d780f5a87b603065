/- mark. -/
import Derived.Test.YtejlmggfeejgpaaDoorLb
import Derived.Test.YtejlmggfeejgpaaDoorLc
import Derived.Test.YtejlmggfeejgpaaDoorKx
import Derived.Test.YtejlmggfeejgpaaDoorKy
import Derived.Test.YtejlmggfeejgpaaDoorMd
namespace Go.Proofs.YtejlmggfeejgpaaDoor
open Go.RowKit
set_option linter.unusedVariables false
set_option linter.unusedSimpArgs false
set_option maxRecDepth 8000

open Go.Shelf
attribute [local go_sem] Oper.semAt_some
/-- A row of truths. -/
def boC (L : List Bool) (R : List Value) : Array Value := (L.map Value.bool ++ R).toArray
theorem boC_get {L : List Bool} {R : List Value} {k : Nat} (h : k < L.length) : (boC L R)[k]? = some (.bool (L.getD k false)) := by
  unfold boC
  simp [List.getElem?_append_left, h]
theorem boC_set {L : List Bool} {R : List Value} {k : Nat} (h : k < L.length) (b : Bool) : (boC L R).setIfInBounds k (.bool b) = boC (L.set k b) R := by
  unfold boC
  simp [List.set_append_left, h, List.map_set]
theorem boC_size (L : List Bool) (R : List Value) : (boC L R).size = L.length + R.length := by simp [boC]
theorem boC_clear (L : List Bool) (R : List Value) (n : Nat) (h : L.length = n) : ((boC L R).toList.take 0 ++ List.replicate n (Value.bool false) ++ (boC L R).toList.drop (0 + n)).toArray = boC (List.replicate n false) R := by
  subst h
  unfold boC
  simp
theorem anewL_nil : List.replicate 37 false = anewL [] := by decide +kernel
theorem usesL_len (o : Opr) : (usesL o).length ≤ 2 := by unfold usesL; split <;> split <;> simp
/-- What mark holds, ahead of the k-th operation from behind. -/
structure MkI (w : World) (v sv : Value) (l : List Opr) (R : List Value) (sb p bb qb k : Nat) (W : World) : Prop where
  row : W.heap[sb]? = some (.cells (boC (markK l k) R) 4)
  sw : W.heap[p]? = some (.cells (swA sv (anewL (l.drop (l.length - k)))) 68)
  bx : Boxed W bb 23 v
  bq : Boxed W qb 34 sv
  ops : Ops W v l
  goes : Goes (fun j => j = sb) w W
  pw : w.heap.size ≤ p
  sbw : sb < w.heap.size
section
variable {w : World} {v sv : Value} {l : List Opr} {R : List Value} {sb p bb qb k : Nat} {W W' : World}
theorem MkI.keepB (h : MkI w v sv l R sb p bb qb k W) (hs : W.heap.size ≤ W'.heap.size) (hc : ∀ (b : Nat) C t, W.heap[b]? = some (.cells C t) → W'.heap[b]? = W.heap[b]?) (ho : Ops W' v l) (hg : Goes (fun j => j = sb) w W') : MkI w v sv l R sb p bb qb k W' :=
  ⟨(hc _ _ _ h.row).trans h.row, (hc _ _ _ h.sw).trans h.sw, (hc _ _ _ h.bx).trans h.bx, (hc _ _ _ h.bq).trans h.bq, ho, hg, h.pw, h.sbw⟩
theorem MkI.grow (h : MkI w v sv l R sb p bb qb k W) (hb : Below W.heap.size W W') : MkI w v sv l R sb p bb qb k W' :=
  h.keepB hb.size (fun b C t hq => hb.block b (lt_of_some hq)) (h.ops.grow hb) (h.goes.grow hb)
theorem ops_low (O : Ops w v l) (h : Goes (fun j => j = sb) w W) (hf : ∀ ra n cap, v = .slice (some ra) n cap → ra.block ≠ sb) : Ops W v l :=
  O.keepB (fun j hj => Nat.lt_of_lt_of_le hj h.size) (fun ra n cap e hlt => h.block _ hlt (hf ra n cap e))
theorem MkI.turn (h : MkI w v sv l R sb p bb qb k W) (O : Ops w v l) (hf : ∀ ra n cap, v = .slice (some ra) n cap → ra.block ≠ sb) {B : Nat} (hB : w.heap.size ≤ B) (t : Rg.Turn B W W') : MkI w v sv l R sb p bb qb k W' := by
  have hg : Goes (fun j => j = sb) w W' := h.goes.trans (Goes.below (B := w.heap.size) t h.goes.size (fun j hj => Nat.le_trans hB hj.1) |> fun b => (⟨b.os, b.tape, b.output, t.size, fun j hj hn => by
    rcases Nat.lt_or_ge j w.heap.size with q | q
    · exact b.block j q
    · exact absurd q hn⟩ : Goes (fun j => w.heap.size ≤ j) W W')) (fun j hj hq => absurd hq (by omega))
  exact h.keepB t.size (fun b C t' hq => (t.cells hq).trans hq.symm) (ops_low O hg hf) hg
end
/-- What a round of mark holds. -/
structure MkB (W0 : World) (v sv : Value) (l : List Opr) (R : List Value) (sb p bb qb t : Nat) (o : Opr) (S : List Bool) (tl : List Opr) (W : World) : Prop where
  row : W.heap[sb]? = some (.cells (boC S R) 4)
  sw : W.heap[p]? = some (.cells (swA sv (anewL tl)) 68)
  bx : Boxed W bb 23 v
  bq : Boxed W qb 34 sv
  ops : Ops W v l
  lo : LocO t o W
  goes : Goes (fun b => b = p ∨ b = sb) W0 W
  in0 : p < W0.heap.size ∧ sb < W0.heap.size
  far : ∀ ra n cap, v = .slice (some ra) n cap → ra.block ≠ sb ∧ ra.block ≠ p
section
variable {W0 W W' : World} {v sv : Value} {l tl : List Opr} {R : List Value} {sb p bb qb t : Nat} {o : Opr} {S : List Bool}
theorem MkB.grow (h : MkB W0 v sv l R sb p bb qb t o S tl W) (hb : Below W.heap.size W W') : MkB W0 v sv l R sb p bb qb t o S tl W' :=
  ⟨keepC h.row hb, keepC h.sw hb, keepC h.bx hb, keepC h.bq hb, h.ops.grow hb, h.lo.grow hb, h.goes.grow hb, h.in0, h.far⟩
theorem MkB.sees {tl' : List Opr} (h : MkB W0 v sv l R sb p bb qb t o S tl W) (r : SwT p sv (anewL tl') W W') : MkB W0 v sv l R sb p bb qb t o S tl' W' := by
  have k : ∀ {b : Nat} {C : Array Value} {T : TypeId}, W.heap[b]? = some (.cells C T) → T ≠ 68 → W'.heap[b]? = some (.cells C T) := fun {b C T} hb hT => by
    rw [r.2.block b (lt_of_some hb) (fun e => by subst e; exact ne_of_type hb h.sw hT rfl)]; exact hb
  exact ⟨k h.row (by decide), r.1, k h.bx (by decide), k h.bq (by decide), h.ops.keepB (fun j hj => Nat.lt_of_lt_of_le hj r.2.size) (fun ra n cap e hlt => r.2.block _ hlt (fun e2 => (h.far ra n cap e).2 e2)), k h.lo (by decide), h.goes.trans r.2 (fun _ _ q => .inl q), h.in0, h.far⟩
theorem MkB.set (h : MkB W0 v sv l R sb p bb qb t o S tl W) {j : Nat} (hj : j < S.length) : MkB W0 v sv l R sb p bb qb t o (S.set j true) tl (W.setCell ⟨sb, j, none⟩ (.bool true)) := by
  have k : ∀ {b : Nat} {C : Array Value} {T : TypeId}, W.heap[b]? = some (.cells C T) → T ≠ 4 → (W.setCell ⟨sb, j, none⟩ (.bool true)).heap[b]? = some (.cells C T) := fun {b C T} hb hT => by
    rw [Below.heap_setCell _ _ _ _ (fun e => by have e : b = sb := e; subst e; exact ne_of_type hb h.row hT rfl)]; exact hb
  have g := goes_setCell (F := fun b => b = sb) W (b := sb) rfl j (.bool true)
  exact ⟨by rw [heap_setCell_same W sb j _ 4 _ h.row, boC_set hj], k h.sw (by decide), k h.bx (by decide), k h.bq (by decide), h.ops.keepB (fun j hj => Nat.lt_of_lt_of_le hj g.size) (fun ra n cap e hlt => g.block _ hlt (fun e2 => (h.far ra n cap e).1 e2)), k h.lo (by decide), h.goes.trans g (fun _ _ q => .inr q), h.in0, h.far⟩
theorem MkB.keeps (h : MkB W0 v sv l R sb p bb qb t o S tl W) {B : Nat} (h1 : ∃ C t f, W0.heap[p]? = some (.cells C t f)) (h2 : ∃ C t f, W0.heap[sb]? = some (.cells C t f)) : KeepsFrom B W0 W :=
  Rg.keeps_goes h.goes (fun k hk _ => by rcases hk with rfl | rfl; exact h1; exact h2)
theorem MkB.cell (h : MkB W0 v sv l R sb p bb qb t o S tl W) {j : Nat} (hj : j < S.length) : W.cell? ⟨sb, j, none⟩ = some (.bool (S.getD j false)) := by
  rw [cell_of_row _ _ _ _ _ _ h.row]; exact boC_get hj
theorem MkB.frz (h : MkB W0 v sv l R sb p bb qb t o S tl W) (j : Nat) : W.frozen? ⟨sb, j, none⟩ = false := frozen_of_row _ _ _ _ _ h.row
end
theorem upAll_take {S : List Bool} {us : List Int} {i : Nat} {u : Int} (h : us[i]? = some u) : (upAll S (us.take i)).set u.toNat true = upAll S (us.take (i + 1)) := by
  unfold upAll
  rw [List.take_add_one, h, List.foldl_append]; rfl
set_option maxHeartbeats 16000000 in
theorem mark_c {w : World} {v : Value} {l : List Opr} {pc words el : Int} {sb cap : Nat} {L0 : List Bool} {R : List Value} (hR : rightB pc words el l = true) (O : Ops w v l) (hf : ∀ ra n cap, v = .slice (some ra) n cap → ra.block ≠ sb) (hs : w.heap[sb]? = some (.cells (boC L0 R) 4)) (hL : L0.length = l.length) :
    Calls Tryd.prog 18 #[v, .slice (some ⟨sb, 0, none⟩) l.length cap] w fun e w' => (∃ u, e = .returned u) ∧ w'.heap[sb]? = some (.cells (boC (seenL l) R) 4) ∧ Goes (fun j => j = sb) w w' := by
  obtain ⟨h0, h512, -⟩ := right_lens hR
  have hsw := lt_of_some hs
  have hok : ∀ j, j < l.length → RngO (opAt l j) := fun j hj => ⟨kind_ok (right_at hR hj), rng_x (right_at hR hj), rng_f (right_at hR hj)⟩
  have huse : ∀ j, j < l.length → ∀ u ∈ usesL (opAt l j), 0 ≤ u ∧ u.toNat < j := fun j hj u hu => ⟨(use_lt hR hj hu).1, (use_lt hR hj hu).2.1⟩
  clear hR
  obtain ⟨ao, cap0, rfl⟩ := O.len
  refine Rg.calls_marks Tryd.func18 rfl ?_
  simp only [Tryd.ntmps18, List.size_toArray, List.length_cons, List.length_nil, Nat.reduceAdd, Nat.reduceSub, Array.replicate_succ, Array.replicate_zero, List.push_toArray, List.append_toArray, List.nil_append, List.cons_append]
  go_upto_region 1 with fail
  have hb1 := below_alloc w (Obj.cells #[.slice (some ⟨sb, 0, none⟩) l.length cap] 34)
  have q1 := Boxed.new w 34 (.slice (some ⟨sb, 0, none⟩) l.length cap)
  have hs1 := keepC hs hb1
  generalize w.alloc (Obj.cells #[Value.slice (some { block := sb, off := 0 }) l.length cap] 34) = w1 at *
  have hcl : ∀ ty, (Builtin.clear_ #[34] ty #[.slice (some ⟨sb, 0, none⟩) l.length cap]).run Tryd.prog w1 = .ok (.tuple #[]) (w1.setRow sb (boC (List.replicate l.length false) R)) := fun ty => by
    have := run_clear_row w1 34 4 ty (.bool false) Tryd.underlying34 zeroB rfl rfl sb 0 l.length cap 4 _ hs1 h0 (by rw [boC_size, hL]; omega)
    rwa [boC_clear _ _ _ hL] at this
  have q1c := q1.cell
  have hs2 := setRow_heap w1 sb _ (boC (List.replicate l.length false) R) _ _ hs1
  have q2 : Boxed (w1.setRow sb (boC (List.replicate l.length false) R)) w.heap.size 34 (.slice (some ⟨sb, 0, none⟩) l.length cap) := by
    unfold Boxed; rw [setRow_other _ _ _ _ (by omega)]; exact q1
  have g2 : Goes (fun j => j = sb) w (w1.setRow sb (boC (List.replicate l.length false) R)) := (goes_of_below hb1).trans (goes_setRow (F := fun j => j = sb) w1 rfl _) (fun _ _ h => h)
  generalize w1.setRow sb (boC (List.replicate l.length false) R) = w2 at *
  clear hs1 q1 hb1
  go_upto_region 2 with (simp only [hcl])
  clear hcl q1c
  have q2c := q2.cell
  have Hn := has_none w2
  go_upto_region 3 with (first | ((with_reducible refine wpList_built rfl 68 _ rfl (swA (.slice (some ⟨sb, 0, none⟩) l.length cap) (anewL [])) (by kernel_rfl) ?_); simp only [Act.put, List.setIfInBounds_toArray, List.set_cons_succ, List.set_cons_zero]) | ((with_reducible refine wpList_store_new Hn rfl 68 _ _ rfl (swA (.slice (some ⟨sb, 0, none⟩) l.length cap) (anewL [])) rfl rfl (by kernel_rfl) (by kernel_rfl) (by kernel_rfl) ?_); clear Hn; intro w3 Hn; simp only [Act.put, List.setIfInBounds_toArray, List.set_cons_succ, List.set_cons_zero]))
  have r3 : w3.heap[w2.heap.size]? = some (.cells (swA (.slice (some ⟨sb, 0, none⟩) l.length cap) (anewL [])) 68) := Hn.get List.mem_cons_self
  have hp0 : w.heap.size ≤ w2.heap.size := g2.size
  replace hs2 := keepC hs2 Hn.below
  replace q2 := keepC q2 Hn.below
  replace g2 := g2.grow Hn.below
  have hpl : w2.heap.size < w3.heap.size := lt_of_some r3
  generalize w2.heap.size = p at *
  clear Hn q2c hs hL
  have kb := back_c ao l.length cap0 w3
  go_wp2_with (first | (go_at_call 33; (with_reducible refine kb.mono ?_); clear kb; rintro e w4 ⟨rfl, hbx, B⟩; dsimp only))
  have g4 := g2.grow B
  have O4 := ops_low O g4 hf
  have hI0 : MkI w (.slice ao l.length cap0) (.slice (some ⟨sb, 0, none⟩) l.length cap) l R sb p w3.heap.size w.heap.size 0 w4 :=
    ⟨keepC hs2 B, by rw [show l.length - 0 = l.length by omega, List.drop_length]; exact keepC r3 B, hbx, keepC q2 B, O4, g4, hp0, hsw⟩
  have hw4 : w.heap.size ≤ w4.heap.size := g4.size
  clear hs2 q2 g2 g4 O4 hbx B r3
  generalize w3.heap.size = bb at *
  clear hpl
  have hfp : ∀ ra n cap, (.slice ao l.length cap0 : Value) = .slice (some ra) n cap → ra.block ≠ sb ∧ ra.block ≠ p := fun ra n c e => by
    refine ⟨hf ra n c e, ?_⟩
    obtain ⟨ra', c', e', hc⟩ := O.cell h0
    cases e.symm.trans e'
    have := (hc 0 _ (opAt_some h0)).lt
    have e6 : (ra.add (0 * 6)).block = ra.block := by unfold Addr.add; split <;> rfl
    rw [e6] at this
    omega
  refine Rg.wp_range_n (w := w4) rfl (enters_of Tryd.func42 (by kernel_rfl) rfl) l.length (fun k => vI ((l.length - 1 - k : Nat) : Int)) (fun k => opV (opAt l (l.length - 1 - k)))
    (fun k W => MkI w (.slice ao l.length cap0) (.slice (some ⟨sb, 0, none⟩) l.length cap) l R sb p bb w.heap.size k W)
    (fun k a' W => MkI w (.slice ao l.length cap0) (.slice (some ⟨sb, 0, none⟩) l.length cap) l R sb p bb w.heap.size k W ∧ ∃ t, LocO t (opAt l (l.length - 1 - k)) W ∧ ∃ u0 u1 u2 u7 u8 u9 u10 u11 u12 u13 u14 u15 u16 u17 u18 u19 u20 u21 u22 u23 u24 u25 u26 u27 u28 u29 u30 u31 u32 u33 u34 u35, a' = { tmps := #[u0, u1, u2, ptr w.heap.size 0, ptr p 0, vI ((l.length - 1 - k : Nat) : Int), ptr t 0, u7, u8, u9, u10, u11, u12, u13, u14, u15, u16, u17, u18, u19, u20, u21, u22, u23, u24, u25, u26, u27, u28, u29, u30, u31, u32, u33, u34, u35], defers := [] })
    ?seq (fun k X Y h t => h.turn O hf hw4 t) (fun k a X Y h t => ⟨h.1.turn O hf hw4 t, by obtain ⟨q, L, e⟩ := h.2; exact ⟨q, t.cells L, e⟩⟩) hI0 ?assign ?body ?done
  case seq =>
    intro L X W _ hY h0' hx
    exact back_in (fun k W => MkI w (.slice ao l.length cap0) (.slice (some ⟨sb, 0, none⟩) l.length cap) l R sb p bb w.heap.size k W) (fun k W h => ⟨h.bx, h.ops⟩) L X W hY h0' hx
  case assign =>
    intro L k W K hk h hK
    generalize opAt l (l.length - 1 - k) = o at *
    obtain ⟨kind, r, a, b, od, imm⟩ := o
    gi_wp2
    refine hK _ _ ((KeepsOthers.alloc W _).from _) ⟨h.grow (below_alloc _ _), W.heap.size, LocO.new W ⟨kind, r, a, b, od, imm⟩, ?_⟩
    exact ⟨_, _, _, _, _, _, _, _, _, _, _, _, _, _, _, _, _, _, _, _, _, _, _, _, _, _, _, _, _, _, _, _, rfl⟩
  case body =>
    rintro L k a' W hk ⟨h, t, Lo, u0, u1, u2, u7, u8, u9, u10, u11, u12, u13, u14, u15, u16, u17, u18, u19, u20, u21, u22, u23, u24, u25, u26, u27, u28, u29, u30, u31, u32, u33, u34, u35, rfl⟩
    obtain ⟨j, hj⟩ : ∃ j, j = l.length - 1 - k := ⟨_, rfl⟩
    rw [← hj] at Lo ⊢
    have hjl : j < l.length := by omega
    have hk1 : l.length - (k + 1) = j := by omega
    have hk2 : l.length - k = j + 1 := by omega
    have hml := markK_len l k
    have M : MkB W (.slice ao l.length cap0) (.slice (some ⟨sb, 0, none⟩) l.length cap) l R sb p bb w.heap.size t (opAt l j) (markK l k) (l.drop (j + 1)) W :=
      ⟨h.row, by have := h.sw; rw [hk2] at this; exact this, h.bx, h.bq, h.ops, Lo, Goes.refl _ _, ⟨lt_of_some h.sw, lt_of_some h.row⟩, hfp⟩
    have ks := sees_c (place := j) M.sw M.row hjl (boC_get (by omega)) (hok j hjl)
    have hmk : markK l (k + 1) = if seesB (opAt l j) (l.drop (j + 1)) ((markK l k).getD j false) = true then upAll ((markK l k).set j true) (usesL (opAt l j)) else markK l k := by
      show (if seesB (opAt l (l.length - (k + 1))) (l.drop (l.length - k)) ((markK l k).getD (l.length - (k + 1)) false) = true then upAll ((markK l k).set (l.length - (k + 1)) true) (usesL (opAt l (l.length - (k + 1)))) else markK l k) = _
      rw [hk1, hk2]
    have hI : ∀ W', MkB W (.slice ao l.length cap0) (.slice (some ⟨sb, 0, none⟩) l.length cap) l R sb p bb w.heap.size t (opAt l j) (markK l (k + 1)) (opAt l j :: l.drop (j + 1)) W' → KeepsFrom w4.heap.size W W' ∧ MkI w (.slice ao l.length cap0) (.slice (some ⟨sb, 0, none⟩) l.length cap) l R sb p bb w.heap.size (k + 1) W' := fun W' m =>
      ⟨m.keeps ⟨_, _, _, h.sw⟩ ⟨_, _, _, h.row⟩, m.row, by rw [hk1, drop_at hjl]; exact m.sw, m.bx, m.bq, m.ops, h.goes.trans m.goes (fun i hi q => by rcases q with q | q; exact absurd q (by have := h.pw; omega); exact q), h.pw, h.sbw⟩
    have huj := huse j hjl
    have hul := usesL_len (opAt l j)
    have kus := usesO_c (opAt l j)
    clear hI0 O hf hok huse h hj hk hk1 hk2 hw4 hp0 hsw
    generalize opAt l j = o at *
    unfold SeesR at ks
    have d0 := Lo.c0
    have d1 := Lo.c1
    have d2 := Lo.c2
    have d3 := Lo.c3
    have d4 := Lo.c4
    have d5 := Lo.c5
    obtain ⟨S, hS⟩ : ∃ S, S = markK l k := ⟨_, rfl⟩
    rw [← hS] at M ks hmk hml
    cases hsb : seesB o (l.drop (j + 1)) (S.getD j false) with
    | false =>
      rw [hsb, if_neg (by decide)] at hmk
      rw [hsb] at ks
      rw [hmk] at hI
      clear hmk hsb
      gi_wp2_with (first | (refine ⟨trivial, ?_⟩; gi_at_call 34; refine (Rg.calls_round L _ ks).mono ?_; rintro e W5 ⟨rfl, r5⟩; dsimp only))
      exact hI _ (M.sees r5)
    | true =>
      rw [hsb, if_pos rfl] at hmk
      rw [hsb] at ks
      rw [hmk] at hI
      clear hmk hsb hS
      refine wpIn_block ?_
      refine wpIn_seq_k fun K hK => ?_
      replace hK := show Hid _ from hK
      gi_wp2_with (first | (refine ⟨trivial, ?_⟩; gi_at_call 34; refine (Rg.calls_round L _ ks).mono ?_; rintro e W5 ⟨rfl, r5⟩; dsimp only))
      refine hK.out _ _ ?_
      clear hK
      replace M := M.sees r5
      clear ks r5 d0 d1 d2 d3 d4 d5 Lo
      have z1 := M.cell (show j < S.length by omega)
      have z2 := M.frz j
      have z3 := M.bq.cell
      have hlt : (j : Int) < l.length := by omega
      refine wpIn_seq_k fun K hK => ?_
      replace hK := show Hid _ from hK
      gi_wp2
      refine hK.out _ _ ?_
      clear hK
      replace M := M.set (show j < S.length by omega)
      clear z1 z2 z3 hlt
      generalize W5.setCell ⟨sb, j, none⟩ (.bool true) = W6 at *
      have d0 := M.lo.c0
      have d1 := M.lo.c1
      have d2 := M.lo.c2
      have d3 := M.lo.c3
      have d4 := M.lo.c4
      have d5 := M.lo.c5
      replace kus := kus W6
      refine wpIn_seq_k fun K hK => ?_
      replace hK := show Hid _ from hK
      gi_wp2_with (first | (refine ⟨trivial, ?_⟩; gi_at_call 35; refine (Rg.calls_round L _ kus).mono ?_; rintro e W7 ⟨uv, rfl, RO, B⟩; dsimp only; obtain ⟨uo, uc, e7⟩ := (raw_own RO).len; subst e7))
      refine hK.out _ _ ?_
      clear hK
      replace M := M.grow B
      clear kus B d0 d1 d2 d3 d4 d5
      obtain ⟨zs, hzs⟩ : ∃ zs, zs = usesL o := ⟨_, rfl⟩
      rw [← hzs] at hI huj hul RO ⊢
      clear hzs
      obtain ⟨B0, hB0⟩ : ∃ B0, B0 = W6.heap.size := ⟨_, rfl⟩
      rw [← hB0] at RO
      clear hB0
      gi_wp2
      gi_loopw [26] (fun s26 wr => ∃ i : Nat, i ≤ zs.length ∧ s26 = vI i ∧ MkB W (.slice ao l.length cap0) (.slice (some ⟨sb, 0, none⟩) l.length cap) l R sb p bb w.heap.size t o (upAll (S.set j true) (zs.take i)) (o :: l.drop (j + 1)) wr ∧ wr.ownsRow B0 3 1 (.slice uo zs.length uc) zs.length (flI zs)) (fun s26 _ => ((zs.length : Int) - intOf s26).toNat)
      case atStart => exact ⟨0, Nat.zero_le _, rfl, by rw [List.take_zero]; exact M, RO⟩
      case round =>
        clear M RO
        obtain ⟨i, hi, rfl, M, RO⟩ := hrel
        by_cases hlt : (i : Int) < zs.length
        · have hil : i < zs.length := by omega
          obtain ⟨ra, uc', e', hc⟩ := (raw_own RO).cell (by omega)
          cases e'
          obtain ⟨_, c1⟩ := hc i _ (List.getElem?_eq_getElem hil)
          have hu := huj _ (List.getElem_mem hil)
          obtain ⟨uu, huu⟩ : ∃ uu : Nat, zs[i] = uu := ⟨zs[i].toNat, by omega⟩
          have htk := upAll_take (S := S.set j true) (List.getElem?_eq_getElem hil)
          rw [huu] at c1 hu htk
          rw [Int.toNat_natCast] at htk hu
          have huS : uu < (upAll (S.set j true) (zs.take i)).length := by rw [upAll_len, List.length_set]; omega
          have z1 := M.cell huS
          have z2 := M.frz uu
          have z3 := M.bq.cell
          have hlt2 : (uu : Int) < l.length := by omega
          have M2 := M.set huS
          have RO2 : (wr.setCell ⟨sb, uu, none⟩ (.bool true)).ownsRow B0 3 1 (.slice (some ra) zs.length uc) zs.length (flI zs) :=
            own_of_block RO (fun q hq => Below.heap_setCell _ _ _ _ (fun e => own_ne M.row RO (by decide) (by rw [hq]; exact congrArg some e)))
          rw [htk] at M2
          clear hc huu hu htk huS M RO hI
          gi_wp2
          go_roundw
          case rel => exact ⟨i + 1, by omega, by go_num, M2, RO2⟩
          case measure => simp [intOf]; omega
        · have e : i = zs.length := by omega
          subst e
          rw [List.take_length] at M
          have hfin := hI _ M
          clear M RO hI
          gi_wp2
          exact hfin
  case done =>
    intro D W hD h hm
    have hml := markK_len l l.length
    have z1 : W.cell? ⟨sb, 0, none⟩ = some (.bool ((markK l l.length).getD 0 false)) := by rw [cell_of_row _ _ _ _ _ _ h.row]; exact boC_get (by omega)
    have z2 : W.frozen? ⟨sb, 0, none⟩ = false := frozen_of_row _ _ _ _ _ h.row
    have z3 := h.bq.cell
    have hlt : (0 : Int) < l.length := by omega
    have hrow := heap_setCell_same W sb 0 _ 4 (.bool true) h.row
    rw [boC_set (by omega)] at hrow
    have hg := h.goes.trans (goes_setCell (F := fun b => b = sb) W (b := sb) rfl 0 (.bool true)) (fun _ _ q => q)
    have hm' : (W.setCell ⟨sb, 0, none⟩ (.bool true)).heap[D]? = some (.deferred (some [])) := by
      rw [Below.heap_setCell _ _ _ _ (fun e => by have e : D = sb := e; omega)]; exact hm
    clear h hm hI0 O
    dsimp only
    go_wp2
    refine (show bodyPostM Fence.wide 9 Tryd.prog Tryd.f18 _ .ret _ _ from Rg.ret_marks (Ds := [D]) w4.heap.size ((Rg.Marks.nil _).cons hm' (by simp)) (fun E hE => by obtain rfl := List.mem_singleton.1 hE; exact hD) (fun w' => results_none rfl _ _ _) fun w' ht => ⟨⟨_, rfl⟩, ht.cells hrow, ?_⟩)
    exact hg.trans (⟨ht.os, ht.tape, ht.output, ht.size, fun i hi hn => ht.block i hi (fun q => hn q.1)⟩ : Goes (fun i => w4.heap.size ≤ i) _ _) (fun i hi q => absurd q (by omega))
end Go.Proofs.YtejlmggfeejgpaaDoor
