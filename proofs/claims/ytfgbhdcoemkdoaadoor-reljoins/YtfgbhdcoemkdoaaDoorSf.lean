/- Order, plain and its memory. -/
import Derived.Test.YtfgbhdcoemkdoaaDoorSe
import Derived.Test.YtfgbhdcoemkdoaaDoorRl
namespace Go.Proofs.YtfgbhdcoemkdoaaDoor
open Go.RowKit
set_option linter.unusedVariables false
set_option linter.unusedSimpArgs false
set_option maxRecDepth 8000

open Hq Rlw
/-- Who is still ahead of b: of row t those that lead to one of pre are gone. -/
def ahW (R : Nat → Nat → Bool) (l : List Nat) (t : Nat) (pre : List Int) (b : Nat) : Nat := Bit.orN (fun a => R a b && !decide (a ∈ l) && !(decide (a = t) && decide ((b : Int) ∈ pre))) 64
theorem ahW_lt (R : Nat → Nat → Bool) (l : List Nat) (t : Nat) (pre : List Int) (b : Nat) : ahW R l t pre b < 2 ^ 64 := Bit.orN_lt _ 64
theorem ahW_test (R : Nat → Nat → Bool) (l : List Nat) (t : Nat) (pre : List Int) (b a : Nat) : (ahW R l t pre b).testBit a = (decide (a < 64) && (R a b && !decide (a ∈ l) && !(decide (a = t) && decide ((b : Int) ∈ pre)))) := Bit.test_orN _ _ _
theorem ahW_start (R : Nat → Nat → Bool) (l : List Nat) (t t' b : Nat) : ahW R l t [] b = ahW R l t' [] b := by
  unfold ahW
  congr 1
  funext a
  simp
theorem ahW_put {R : Nat → Nat → Bool} {l : List Nat} {t : Nat} (ht : t < 64) (pre : List Int) (b c : Nat) : up (ahW R l t pre) b (Bit.less (ahW R l t pre b) (2 ^ t)) c = ahW R l t (pre ++ [(b : Int)]) c := by
  unfold up
  apply Nat.eq_of_testBit_eq
  intro a
  by_cases e : c = b
  · subst e
    rw [if_pos rfl, Bit.test_less, ahW_test, ahW_test, Nat.testBit_two_pow]
    by_cases ha : a = t
    · subst ha; simp
    · have h2 : ¬ t = a := fun h => ha h.symm
      simp only [decide_eq_false ha, decide_eq_false h2]
      cases decide (a < 64) <;> simp
  · rw [if_neg e, ahW_test, ahW_test]
    have : ((c : Int) ∈ pre ++ [(b : Int)]) ↔ (c : Int) ∈ pre := by
      rw [List.mem_append, List.mem_singleton]
      constructor
      · rintro (h | h)
        · exact h
        · omega
      · exact .inl
    rw [decide_eq_decide.2 this]
theorem ahW_next {n : Nat} {R : Nat → Nat → Bool} (hR : Fits n R) (hn : n ≤ 64) {l : List Nat} {t t' : Nat} (b : Nat) : ahW R l t (els (rwd R t)) b = ahW R (l ++ [t]) t' [] b := by
  apply Nat.eq_of_testBit_eq
  intro a
  rw [ahW_test, ahW_test]
  by_cases e : a = t
  · subst e
    cases h : R a b with
    | false => simp
    | true =>
      have hb : b < 64 := by have := (hR a b h).2; omega
      rw [els_iff hb, rwd_test, h, decide_eq_true hb]
      simp
  · simp [e]
theorem ahW_zero {n : Nat} {R : Nat → Nat → Bool} (hR : Fits n R) (hn : n ≤ 64) {l : List Nat} {t : Nat} {pre : List Int} {b : Nat} (hb : (b : Int) ∈ pre) : ahW R l t pre b = 0 ↔ ∀ a, R a b = true → a ∈ l ++ [t] := by
  constructor
  · intro h a ha
    have := ahW_test R l t pre b a
    rw [h, Nat.zero_testBit, decide_eq_true (by have := (hR a b ha).1; omega : a < 64), ha, decide_eq_true hb] at this
    rw [List.mem_append, List.mem_singleton]
    by_cases h1 : a ∈ l
    · exact .inl h1
    · rw [decide_eq_false h1] at this
      by_cases h2 : a = t
      · exact .inr h2
      · rw [decide_eq_false h2] at this; simp at this
  · intro h
    apply Nat.eq_of_testBit_eq
    intro a
    rw [ahW_test, Nat.zero_testBit]
    cases ha : R a b with
    | false => simp
    | true =>
      have := h a ha
      rw [List.mem_append, List.mem_singleton] at this
      rcases this with h1 | h1
      · simp [h1]
      · subst h1; simp [hb]
theorem ahW_none {n : Nat} {R : Nat → Nat → Bool} (hR : Fits n R) (hn : n ≤ 64) {t b : Nat} : ahW R [] t [] b = 0 ↔ rdy n R [] b = true := by
  rw [rdy_iff hR]
  constructor
  · intro h
    refine ⟨by simp, fun a ha => ?_⟩
    have := ahW_test R [] t [] b a
    rw [h, Nat.zero_testBit, decide_eq_true (by have := (hR a b ha).1; omega : a < 64), ha] at this
    simp at this
  · rintro ⟨_, h⟩
    apply Nat.eq_of_testBit_eq
    intro a
    rw [ahW_test, Nat.zero_testBit]
    cases ha : R a b with
    | false => simp
    | true => exact absurd (h a ha) (by simp)
/-- Who waits for nobody, behind t: those that did before, and some to which t leads. -/
theorem rdy_next {n : Nat} {R : Nat → Nat → Bool} (hR : Fits n R) {l : List Nat} {t b : Nat} (ht : rdy n R l t = true) : rdy n R (l ++ [t]) b = true ↔ (rdy n R l b = true ∧ b ≠ t) ∨ (R t b = true ∧ rdy n R (l ++ [t]) b = true) := by
  constructor
  · intro h
    by_cases h1 : R t b = true
    · exact .inr ⟨h1, h⟩
    · refine .inl ?_
      rw [rdy_iff hR] at h ⊢
      refine ⟨⟨fun hb => h.1 (List.mem_append.2 (.inl hb)), fun a ha => ?_⟩, fun e => h.1 (List.mem_append.2 (.inr (List.mem_singleton.2 e)))⟩
      have := h.2 a ha
      rw [List.mem_append, List.mem_singleton] at this
      rcases this with h2 | h2
      · exact h2
      · subst h2; exact absurd ha h1
  · rintro (⟨h, hne⟩ | h)
    · rw [rdy_iff hR] at h ⊢
      refine ⟨fun hb => ?_, fun a ha => List.mem_append.2 (.inl (h.2 a ha))⟩
      rw [List.mem_append, List.mem_singleton] at hb
      exact hb.elim h.1 hne
    · exact h.2
/-- Who t leads to is neither done nor ready before. -/
theorem succ_new {n : Nat} {R : Nat → Nat → Bool} (hR : Fits n R) {l : List Nat} (H : Ordd n R l) {t b : Nat} (ht : rdy n R l t = true) (h : R t b = true) : b ∉ l ++ [t] ∧ rdy n R l b = false := by
  rw [rdy_iff hR] at ht
  refine ⟨fun hb => ?_, ?_⟩
  · rw [List.mem_append, List.mem_singleton] at hb
    rcases hb with hb | rfl
    · obtain ⟨i, hi⟩ := List.mem_iff_getElem?.1 hb
      obtain ⟨j, _, hj⟩ := H.fwd i b hi t h
      exact ht.1 (List.mem_iff_getElem?.2 ⟨j, hj⟩)
    · exact ht.1 (ht.2 _ h)
  · cases e : rdy n R l b with
    | false => rfl
    | true => exact absurd (((rdy_iff hR).1 e).2 t h) ht.1
/-- The things in the queue, a part of t's having come. -/
def QM (n : Nat) (R : Nat → Nat → Bool) (l : List Nat) (t : Nat) (pre : List Int) (b : Nat) : Prop := (rdy n R l b = true ∧ b < n ∧ b ≠ t) ∨ ((b : Int) ∈ pre ∧ rdy n R (l ++ [t]) b = true)
theorem QM_end {n : Nat} {R : Nat → Nat → Bool} (hR : Fits n R) (hn : n ≤ 64) {l : List Nat} {t b : Nat} (ht : rdy n R l t = true) : QM n R l t (els (rwd R t)) b ↔ rdy n R (l ++ [t]) b = true ∧ b < n := by
  unfold QM
  have hel : (b : Int) ∈ els (rwd R t) ↔ R t b = true := by
    constructor
    · intro h
      unfold els elsN at h
      simp only [List.mem_map, List.mem_filter, List.mem_range] at h
      obtain ⟨k, ⟨_, h2⟩, e⟩ := h
      obtain rfl : k = b := by omega
      rw [rwd_test] at h2
      simp only [Bool.and_eq_true, decide_eq_true_eq] at h2
      exact h2.2
    · intro h
      have hb : b < 64 := by have := (hR t b h).2; omega
      have := els_iff (v := rwd R t) hb
      rw [rwd_test, h, decide_eq_true hb] at this
      simpa using this
  rw [hel]
  constructor
  · rintro (⟨h1, h2, h3⟩ | ⟨h1, h2⟩)
    · exact ⟨(rdy_next hR ht).2 (.inl ⟨h1, h3⟩), h2⟩
    · exact ⟨h2, (hR t b h1).2⟩
  · rintro ⟨h, hb⟩
    rcases (rdy_next hR ht).1 h with ⟨h1, h3⟩ | ⟨h1, h2⟩
    · exact .inl ⟨h1, hb, h3⟩
    · exact .inr ⟨h1, h2⟩
theorem els_nodup (v : Nat) : (els v).Nodup := by
  unfold els elsN
  refine List.Pairwise.map _ (fun a b h => ?_) (List.Pairwise.filter _ List.nodup_range)
  intro e; exact h (by omega)
theorem pre_fresh {v b : Nat} {pre : List Int} (h : pre ++ [(b : Int)] <+: els v) : (b : Int) ∉ pre := by
  have hn := (els_nodup v).sublist h.sublist
  rw [List.nodup_append] at hn
  intro hb
  exact hn.2.2 _ hb _ (List.mem_singleton.2 rfl) rfl
/-- The queue is long at most as the things are many. -/
theorem queue_len {n : Nat} {lq : List Nat} (hI : Inj lq) (h : ∀ b ∈ lq, b < n) : lq.length ≤ n := by
  refine nodup_len h (List.pairwise_iff_getElem.2 fun i j hi hj hij e => ?_)
  have := hI i j lq[i] (List.getElem?_eq_getElem hi) (by rw [e]; exact List.getElem?_eq_getElem hj)
  omega
structure OrI (r n : Nat) (R : Nat → Nat → Bool) (w : World) (A qb qq : Nat) (l lo : List Nat) (t : Nat) (pre : List Int) (lq : List Nat) (u vo : Value) (Ds : List Nat) (W : World) : Prop where
  arr : ArrAt A (ahW R l t pre) W
  box : Boxed W qb 73 (ptr qq 0)
  que : QAt w.heap.size qq u lq W
  heap : Heap lq lq.length
  inj : Inj lq
  out : W.ownsRow w.heap.size 3 1 vo lo.length (flN lo)
  ap : ∀ k, vo.ownBlock = some k → u.ownBlock ≠ some k
  src : RelAt r n R W
  low : Below w.heap.size w W
  tab : Tab W
  mks : Rg.Marks Ds W
  big : ∀ D ∈ Ds, w.heap.size ≤ D
  hA : w.heap.size ≤ A
  hb : w.heap.size ≤ qb
section
variable {r n : Nat} {R : Nat → Nat → Bool} {w W W' : World} {A qb qq : Nat} {l lo : List Nat} {t : Nat} {pre : List Int} {lq : List Nat} {u vo : Value} {Ds : List Nat}
theorem OrI.turn {B : Nat} (h : OrI r n R w A qb qq l lo t pre lq u vo Ds W) (k : Rg.Turn B W W') (hB : w.heap.size ≤ B) (h0 : 0 < B) (hD : ∀ D ∈ Ds, D < B) : OrI r n R w A qb qq l lo t pre lq u vo Ds W' :=
  ⟨h.arr.turn k, boxed_turn h.box k, h.que.turn k, h.heap, h.inj, k.own h.out, h.ap, h.src.turn k, h.low.trans (k.below hB h.low.size), h.tab.turn k h0, h.mks.keep fun D hd => k.low (hD D hd) (h.mks.lt hd), h.big, h.hA, h.hb⟩
theorem OrI.grow (h : OrI r n R w A qb qq l lo t pre lq u vo Ds W) (k : Below W.heap.size W W') : OrI r n R w A qb qq l lo t pre lq u vo Ds W' :=
  ⟨h.arr.grow k, boxed_grow h.box k, h.que.grow k, h.heap, h.inj, own_of_block h.out fun i hi => k.block i (h.out.lt i hi).2, h.ap, h.src.grow k, h.low.trans (k.mono h.low.size), h.tab.grow k, h.mks.below k, h.big, h.hA, h.hb⟩
/-- A call on the queue. -/
theorem OrI.queue (h : OrI r n R w A qb qq l lo t pre lq u vo Ds W) (hr : r < w.heap.size) (h0 : 0 < w.heap.size) {u' : Value} {lq' : List Nat} {g : Nat} (G : Goes (QF qq u) W W') (Q : QAt w.heap.size qq u' lq' W') (hh : Heap lq' lq'.length) (hI : Inj lq') (hg : u'.ownBlock = some g) (hu : u.ownBlock = some g ∨ W.heap.size ≤ g) : OrI r n R w A qb qq l lo t pre lq' u' vo Ds W' ∧ ∀ k C ty, W.heap[k]? = some (.cells C ty) → k ≠ qq → u.ownBlock ≠ some k → W'.heap[k]? = some (.cells C ty) ∧ u'.ownBlock ≠ some k := by
  have kq : ∀ (k : Nat) (C : Array Value) (ty : TypeId), W.heap[k]? = some (.cells C ty) → k ≠ qq → u.ownBlock ≠ some k → W'.heap[k]? = some (.cells C ty) := fun k C ty hk h1 h2 => by
    rw [G.block k (lt_of_some hk) (by rintro (e | e); exact h1 e; exact h2 e)]; exact hk
  have kt : ∀ (k : Nat) (C : Array Value) (ty : TypeId), W.heap[k]? = some (.cells C ty) → ty ≠ 74 → ty ≠ 3 → W'.heap[k]? = some (.cells C ty) := fun k C ty hk h1 h2 => kq k C ty hk (ne_of_type hk h.que.hd h1) (own_ne hk h.que.row h2)
  have ku : ∀ k, k < W.heap.size → u.ownBlock ≠ some k → u'.ownBlock ≠ some k := fun k hk hn e => by
    rw [hg] at e
    cases e
    rcases hu with e | e
    · exact hn e
    · omega
  have lowk : ∀ k, QF qq u k → w.heap.size ≤ k := by
    rintro k (rfl | e)
    · exact h.que.hq
    · exact (h.que.row.lt k e).1
  have hB : Below w.heap.size W W' := G.below h.low.size lowk
  refine ⟨⟨kt _ _ _ h.arr (by decide) (by decide), kt _ _ _ h.box (by decide) (by decide), Q, hh, hI, own_of_block h.out fun k hk => ?_, fun k hk => ku k (h.out.lt k hk).2 (h.ap k hk), h.src.keep (hB.block _ hr), h.low.trans hB, h.tab.keep (hB.block 0 h0), h.mks.keep fun D hd => G.block D (h.mks.lt hd) ?_, h.big, h.hA, h.hb⟩, fun k C ty hk h1 h2 => ⟨kq k C ty hk h1 h2, ku k (lt_of_some hk) h2⟩⟩
  · refine G.block k (h.out.lt k hk).2 ?_
    rintro (e | e)
    · subst e; exact own_ne h.que.hd h.out (by decide) hk
    · exact h.ap k hk e
  · rintro (e | e)
    · have := h.mks.is D hd
      rw [e, h.que.hd] at this; cases this
    · obtain ⟨C, _, hC⟩ := own_kind h.que.row e
      have := h.mks.is D hd
      rw [hC] at this; cases this
/-- A store into the array. -/
theorem OrI.put (h : OrI r n R w A qb qq l lo t pre lq u vo Ds W) (hr : r < w.heap.size) (h0 : 0 < w.heap.size) (ht : t < 64) {b : Nat} (hb : b < 64) : OrI r n R w A qb qq l lo t (pre ++ [(b : Int)]) lq u vo Ds (W.setCell ⟨A, b, none⟩ (vU ((Bit.less (ahW R l t pre b) (2 ^ t) : Nat) : Int))) := by
  generalize hx : (W.setCell ⟨A, b, none⟩ (vU ((Bit.less (ahW R l t pre b) (2 ^ t) : Nat) : Int))) = W'
  have kk : ∀ i, i ≠ A → W'.heap[i]? = W.heap[i]? := fun i hi => by rw [← hx]; exact Below.heap_setCell _ _ _ _ hi
  have ka := h.hA
  have ha : ArrAt A (ahW R l t (pre ++ [(b : Int)])) W' := by
    have h1 := h.arr.put hb (Bit.less (ahW R l t pre b) (2 ^ t))
    rw [hx] at h1
    unfold ArrAt at *
    rw [h1, rl_congr fun c _ => ahW_put ht pre b c]
  have kt : ∀ (k : Nat) (C : Array Value) (ty : TypeId), W.heap[k]? = some (.cells C ty) → ty ≠ 68 → W'.heap[k]? = some (.cells C ty) := fun k C ty hk h1 => by rw [kk k (ne_of_type hk h.arr h1)]; exact hk
  refine ⟨ha, kt _ _ _ h.box (by decide), ⟨kt _ _ _ h.que.hd (by decide), own_of_block h.que.row fun k hk => ?_, h.que.hq⟩, h.heap, h.inj, own_of_block h.out fun k hk => ?_, h.ap, h.src.keep (kk _ (by omega)), by rw [← hx]; exact h.low.setCell (p := ⟨A, b, none⟩) h.hA _, h.tab.keep (kk _ (by omega)), h.mks.keep fun D hd => kk _ ?_, h.big, h.hA, h.hb⟩
  · obtain ⟨C, _, hC⟩ := own_kind h.que.row hk
    exact kk _ (ne_of_type hC h.arr (by decide))
  · obtain ⟨C, _, hC⟩ := own_kind h.out hk
    exact kk _ (ne_of_type hC h.arr (by decide))
  · rintro rfl
    have := h.mks.is _ hd
    rw [show W.heap[D]? = _ from h.arr] at this; cases this
/-- Another row for the order so far. -/
theorem OrI.app (h : OrI r n R w A qb qq l lo t pre lq u vo Ds W) (hr : r < w.heap.size) (h0 : 0 < w.heap.size) {v' : Value} {lo' : List Nat} {g : Nat} (hg : W.grownBy W' vo.ownBlock) (hown : W'.ownsRow w.heap.size 3 1 v' lo'.length (flN lo')) (hv : v'.ownBlock = some g) (hvo : vo.ownBlock = some g ∨ g = W.heap.size) : OrI r n R w A qb qq l lo' t pre lq u v' Ds W' ∧ ∀ k C ty, W.heap[k]? = some (.cells C ty) → vo.ownBlock ≠ some k → W'.heap[k]? = some (.cells C ty) := by
  have kq : ∀ (k : Nat) (C : Array Value) (ty : TypeId), W.heap[k]? = some (.cells C ty) → vo.ownBlock ≠ some k → W'.heap[k]? = some (.cells C ty) := fun k C ty hk h1 => by
    rw [hg.block k (lt_of_some hk) (fun e => h1 e.symm)]; exact hk
  have kt : ∀ (k : Nat) (C : Array Value) (ty : TypeId), W.heap[k]? = some (.cells C ty) → ty ≠ 3 → W'.heap[k]? = some (.cells C ty) := fun k C ty hk h1 => kq k C ty hk (own_ne hk h.out h1)
  have G : Goes (fun k => vo.ownBlock = some k) W W' := goes_grown hg fun k hk => hk
  have hB : Below w.heap.size W W' := G.below h.low.size fun k hk => (h.out.lt k hk).1
  refine ⟨⟨kt _ _ _ h.arr (by decide), kt _ _ _ h.box (by decide), ⟨kt _ _ _ h.que.hd (by decide), own_of_block h.que.row fun k hk => ?_, h.que.hq⟩, h.heap, h.inj, hown, fun k hk e => ?_, h.src.keep (hB.block _ hr), h.low.trans hB, h.tab.keep (hB.block 0 h0), h.mks.keep fun D hd => G.block D (h.mks.lt hd) fun e => ?_, h.big, h.hA, h.hb⟩, kq⟩
  · exact G.block k (h.que.row.lt k hk).2 fun e => h.ap k e hk
  · rw [hv] at hk
    cases hk
    rcases hvo with e1 | e1
    · exact h.ap _ e1 e
    · have := (h.que.row.lt _ e).2; omega
  · obtain ⟨C, _, hC⟩ := own_kind h.out e
    have := h.mks.is D hd
    rw [hC] at this; cases this
end
theorem wpList_appN {ops : Array Oper} {rest : List Oper} {o : Oper} {a : Act} {w : World} {Q : Exit → Act → World → Prop} (hgd : o.guard = none) (T : TypeId) (hT : Tryd.prog.underlying T = some (.slice 3)) (s x : Operand) (ho : o.op = .call { callee := .builtin .append, args := #[s, x], argTypes := #[T, T] }) (base : Nat) (v : Value) (l : List Nat) (hs : a.eval s = v) (hown : w.ownsRow base 3 1 v l.length (flN l)) (hbase : base ≤ w.heap.size)
    (b c z : Nat) (hx : a.eval x = .slice (some ⟨b, 0, none⟩) 1 c) (hc : w.heap[b]? = some (.cells #[vI z] 3)) (hl : l.length < 1000000000)
    (h : ∀ g cap w', w'.ownsRow base 3 1 (.slice (some ⟨g, 0, none⟩) (l.length + 1) cap) (l ++ [z]).length (flN (l ++ [z])) → w.grownBy w' v.ownBlock → (v.ownBlock = some g ∨ g = w.heap.size) → wpList Tryd.prog ops Q rest (a.put o.dst (.slice (some ⟨g, 0, none⟩) (l.length + 1) cap)) w') : wpList Tryd.prog ops Q (o :: rest) a w :=
  wpList_plain hgd fun _ hK => by
    obtain ⟨i, h1, h2, h3, h4⟩ := infI
    obtain ⟨g, cap, w', hr, q1, q2, q3, q4⟩ := run_append_lies (P := Tryd.prog) w T o.type base 3 i (vI 0) 1 8 hT h1 h2 h3 h4 rfl (by decide) v l.length (flN l) hown ⟨b, 0, none⟩ 1 c (flN [z]) rfl (by
      intro j u hj
      have e : (⟨b, 0, none⟩ : Addr).add j = ⟨b, j, none⟩ := by rw [Addr.add_mid, Nat.zero_add]
      rw [e, cell_of_row _ _ _ _ _ _ hc]
      simpa using hj) (one_flN _) (by decide) (by simp only [maxLen]; omega) (by omega) hbase w.heap.size rfl
    unfold Oper.wp execOp
    simp only [ho, resolve, invoke, builtin, Sem.run_bind, Sem.run_pure, Result.andThen_ok, List.map_toArray, List.map_cons, List.map_nil, hs, hx, hr]
    refine hK _ _ (h g cap w' ?_ q2 q3)
    rw [List.length_append, flN_append]
    exact q1
theorem QM_start {n : Nat} {R : Nat → Nat → Bool} {l lq m : List Nat} {t : Nat} (hM : ∀ b, b ∈ lq ↔ rdy n R l b = true ∧ b < n) (h : ∀ x, x ∈ m ↔ x ∈ lq ∧ x ≠ t) (b : Nat) : b ∈ m ↔ QM n R l t [] b := by
  rw [h, hM]
  unfold QM
  simp [and_assoc]
theorem QM_push {n : Nat} {R : Nat → Nat → Bool} {l lq m : List Nat} {t c : Nat} {pre : List Int} (hM : ∀ b, b ∈ lq ↔ QM n R l t pre b) (h : ∀ x, x ∈ m ↔ x ∈ lq ∨ x = c) (hr : rdy n R (l ++ [t]) c = true) (b : Nat) : b ∈ m ↔ QM n R l t (pre ++ [(c : Int)]) b := by
  rw [h, hM]
  unfold QM
  rw [List.mem_append, List.mem_singleton]
  constructor
  · rintro ((h1 | ⟨h1, h2⟩) | rfl)
    · exact .inl h1
    · exact .inr ⟨.inl h1, h2⟩
    · exact .inr ⟨.inr rfl, hr⟩
  · rintro (h1 | ⟨h1 | h1, h2⟩)
    · exact .inl (.inl h1)
    · exact .inl (.inr ⟨h1, h2⟩)
    · exact .inr (by omega)
theorem QM_skip {n : Nat} {R : Nat → Nat → Bool} {l lq : List Nat} {t c : Nat} {pre : List Int} (hM : ∀ b, b ∈ lq ↔ QM n R l t pre b) (hr : ¬ rdy n R (l ++ [t]) c = true) (b : Nat) : b ∈ lq ↔ QM n R l t (pre ++ [(c : Int)]) b := by
  rw [hM]
  unfold QM
  rw [List.mem_append, List.mem_singleton]
  constructor
  · rintro (h1 | ⟨h1, h2⟩)
    · exact .inl h1
    · exact .inr ⟨.inl h1, h2⟩
  · rintro (h1 | ⟨h1 | h1, h2⟩)
    · exact .inl h1
    · exact .inr ⟨h1, h2⟩
    · obtain rfl : b = c := by omega
      exact absurd h2 hr
theorem least_min {n : Nat} {R : Nat → Nat → Bool} {l rest : List Nat} {t : Nat} (hh : Heap (t :: rest) (t :: rest).length) (hM : ∀ b, b ∈ t :: rest ↔ rdy n R l b = true ∧ b < n) : nxt n R l = some t := by
  have ht := (hM t).1 (by simp)
  refine find_range.2 ⟨ht.2, ht.1, fun x hx => ?_⟩
  cases e : rdy n R l x with
  | false => rfl
  | true =>
    obtain ⟨k, hk⟩ := List.mem_iff_getElem?.1 ((hM x).2 ⟨e, by omega⟩)
    have := heap_min hh (Nat.le_refl _) (k + 1) k (by omega) (List.getElem?_eq_some_iff.1 hk).1 x t hk rfl
    omega
end Go.Proofs.YtfgbhdcoemkdoaaDoor
