/- The same, beside blocks that are to stay. -/
import Derived.Test.YtjkjbcnafpljoaaOw
namespace Go.Proofs.Ytjkjbcnafpljoaa
open Go.RowKit
set_option linter.unusedVariables false
set_option linter.unusedSimpArgs false

def Kept (K : Nat → Prop) (w w' : World) : Prop := ∀ b, K b → w'.heap[b]? = w.heap[b]?
def LX (w0 : World) (g : Nat) (S : Sta) (K : Nat → Prop) (w : World) : Prop := ∃ L, MemAt g S L w ∧ (∀ k, Foot g L k → w0.heap.size ≤ k) ∧ Below w0.heap.size w0 w ∧ ∀ b, K b → b < w.heap.size ∧ ¬ Foot g L b
theorem LX.below {w0 w : World} {g : Nat} {S : Sta} {K : Nat → Prop} (h : LX w0 g S K w) : Below w0.heap.size w0 w := by obtain ⟨_, _, _, B, _⟩ := h; exact B
theorem lx_of {w0 w : World} {g : Nat} {S : Sta} {R : List (Value × List Lt)} (h : LR w0 g S R w) : LX w0 g S (fun _ => False) w := by
  obtain ⟨L, M, F, B, _⟩ := h
  exact ⟨L, M, F, B, fun _ h => h.elim⟩
theorem lx_turn {w0 w w' : World} {g : Nat} {S S' : Sta} {K : Nat → Prop} {L : Lay} (M : MemAt g S L w) (F : ∀ k, Foot g L k → w0.heap.size ≤ k) (B : Below w0.heap.size w0 w) (C : ∀ b, K b → b < w.heap.size ∧ ¬ Foot g L b) (t : Turn g L S' w w') : LX w0 g S' K w' ∧ Kept K w w' := by
  obtain ⟨L', M', go, ft⟩ := t
  refine ⟨⟨L', M', fun k hk => ?_, goes_below B F go, fun b hb => ⟨Nat.lt_of_lt_of_le (C b hb).1 go.size, fun hf => ?_⟩⟩, fun b hb => go.block b (C b hb).1 (C b hb).2⟩
  · rcases ft k hk with e | e
    · exact F k e
    · exact Nat.le_trans B.size e
  · rcases ft b hf with e | e
    · exact (C b hb).2 e
    · have := (C b hb).1; omega
/-- A new block beside. -/
theorem LX.new {w0 w : World} {g : Nat} {S : Sta} {K : Nat → Prop} (h : LX w0 g S K w) (o : Obj) : LX w0 g S (fun b => K b ∨ b = w.heap.size) (w.alloc o) := by
  obtain ⟨L, M, F, B, C⟩ := h
  have hb := below_alloc w o
  have hs : (w.alloc o).heap.size = w.heap.size + 1 := by simp
  refine ⟨L, M.grow hb, F, below_then B (Nat.le_refl _) hb, fun b hk => ?_⟩
  rcases hk with hk | rfl
  · exact ⟨Nat.lt_of_lt_of_le (C b hk).1 hb.size, (C b hk).2⟩
  · exact ⟨by omega, fun hf => Nat.lt_irrefl _ (M.lt hf)⟩
theorem LX.less {w0 w : World} {g : Nat} {S : Sta} {K K' : Nat → Prop} (h : LX w0 g S K w) (hs : ∀ b, K' b → K b) : LX w0 g S K' w := by
  obtain ⟨L, M, F, B, C⟩ := h
  exact ⟨L, M, F, B, fun b hb => C b (hs b hb)⟩
/-- A cell laid down in one of them. -/
theorem LX.put {w0 w : World} {g : Nat} {S : Sta} {K : Nat → Prop} (h : LX w0 g S K w) {b : Nat} (hb : K b) (h0 : w0.heap.size ≤ b) (k : Nat) (v : Value) : LX w0 g S K (w.setCell ⟨b, k, none⟩ v) := by
  obtain ⟨L, M, F, B, C⟩ := h
  refine ⟨L, M.keep fun j hj => Below.heap_setCell _ _ _ _ (fun e => (C b hb).2 (by have e : j = b := e; exact e ▸ hj)), F, B.setCell h0 _, fun j hj => ⟨?_, (C j hj).2⟩⟩
  have := (C j hj).1
  simpa [World.setCell] using this
theorem load_x {w0 w : World} {g : Nat} {S : Sta} {K : Nat → Prop} (H : LX w0 g S K w) (O : S.Ok) (core addr : Int) (hA : U64 addr) : Calls Try.prog 12 #[ptr g 0, vI core, vU addr] w fun e w' => e = .returned (.tuple #[vU (loadP S core addr).1, vI (loadP S core addr).2, vI (argE (okB S core addr))]) ∧ LX w0 g S K w' ∧ Kept K w w' := by
  obtain ⟨L, M, F, B, C⟩ := H
  refine (load_c g S L core addr w M O hA).mono ?_
  rintro e w' ⟨rfl, T⟩
  exact ⟨rfl, (lx_turn M F B C T)⟩
theorem store_x {w0 w : World} {g : Nat} {S : Sta} {K : Nat → Prop} (H : LX w0 g S K w) (O : S.Ok) (core addr value : Int) (hA : U64 addr) (ht : S.stamps.length < 1000000) : Calls Try.prog 27 #[ptr g 0, vI core, vU addr, vU value] w fun e w' => e = .returned (.tuple #[vI (storeT S core addr), vI (storeE S core addr)]) ∧ LX w0 g (storeS S core addr value) K w' ∧ Kept K w w' := by
  obtain ⟨L, M, F, B, C⟩ := H
  refine (store_c g S L core addr value w M O hA ht).mono ?_
  rintro e w' ⟨rfl, T⟩
  exact ⟨rfl, (lx_turn M F B C T)⟩
theorem drain_x {w0 w : World} {g : Nat} {S : Sta} {K : Nat → Prop} (H : LX w0 g S K w) (O : S.Ok) (core : Int) (ht : S.stamps.length < 1000000) : Calls Try.prog 28 #[ptr g 0, vI core] w fun e w' => e = .returned (.tuple #[(drainL S core).val, vI (drainE S core)]) ∧ LX w0 g (drainS S core) K w' ∧ Kept K w w' := by
  obtain ⟨L, M, F, B, C⟩ := H
  refine (drain_c g S L core w M O ht).mono ?_
  rintro e w' ⟨rfl, T⟩
  exact ⟨rfl, (lx_turn M F B C T)⟩
theorem peek_x {w0 w : World} {g : Nat} {S : Sta} {K : Nat → Prop} (H : LX w0 g S K w) (O : S.Ok) (addr : Int) (hA : U64 addr) : Calls Try.prog 26 #[ptr g 0, vU addr] w fun e w' => e = .returned (.tuple #[vU (peekV S addr), vI (peekT S addr), vI (argE (hasWordB S addr))]) ∧ LX w0 g S K w' ∧ Kept K w w' := by
  obtain ⟨L, M, F, B, C⟩ := H
  refine (peek_c g S L addr w M O.w2 hA).mono ?_
  rintro e w' ⟨rfl, hb⟩
  exact ⟨rfl, (lx_turn M F B C (turn_of_below M hb))⟩
theorem flush_x {w0 w : World} {g : Nat} {S : Sta} {K : Nat → Prop} (H : LX w0 g S K w) (O : S.Ok) (core : Int) (ht : S.stamps.length < 1000000) (hC : hasCoreB S core = true) : Calls Try.prog 25 #[ptr g 0, vI core] w fun e w' => ∃ v, e = .returned (.tuple #[v, vI 0]) ∧ LX w0 g (flushS S core) K w' ∧ Kept K w w' := by
  obtain ⟨L, M, F, B, C⟩ := H
  refine (flush_c g S L core w M O ht hC).mono ?_
  rintro e w' ⟨v, rfl, T⟩
  exact ⟨v, rfl, (lx_turn M F B C T.turn)⟩
theorem put_x {w0 w : World} {g : Nat} {S : Sta} {K : Nat → Prop} (H : LX w0 g S K w) (O : S.Ok) (core addr value : Int) (hA : U64 addr) (ht : S.stamps.length < 1000000) : Calls Try.prog 30 #[ptr g 0, vI core, vU addr, vU value] w fun e w' => ∃ v, e = .returned (.tuple #[vI (putT S core addr), v, vI (argE (okB S core addr))]) ∧ LX w0 g (putS S core addr value) K w' ∧ Kept K w w' := by
  obtain ⟨L, M, F, B, C⟩ := H
  refine (put_c g S L core addr value w M O hA ht).mono ?_
  rintro e w' ⟨v, rfl, T⟩
  exact ⟨v, rfl, (lx_turn M F B C T.turn)⟩
/-- One core alone: what it reads. -/
def alone (S : Sta) (k : Nat) : Int := (loadP S 0 (8 * k)).1
structure One (S : Sta) : Prop where
  ok : S.Ok
  b : S.bufs.length = 1
  w : S.words.length = 6
theorem One.core {S : Sta} (h : One S) : hasCoreB S 0 = true := by simp [hasCoreB, h.b]
theorem One.word {S : Sta} (h : One S) {k : Nat} (hk : k < 6) : hasWordB S (8 * k) = true := by simp only [hasWordB, withinB, h.w, Bool.and_eq_true, beq_iff_eq, decide_eq_true_eq]; omega
theorem One.okb {S : Sta} (h : One S) {k : Nat} (hk : k < 6) : okB S 0 (8 * k) = true := by rw [okB, h.core, h.word hk]; rfl
theorem nw_cons (x : Lt) (l : List Lt) (a : Int) : nw (x :: l) a = (match nw l a with | some s => some s | none => if x.a = a then some x else none) := by
  rw [nw, nw, List.reverse_cons, List.find?_append]
  cases List.find? (fun x => x.a == a) l.reverse with
  | some s => rfl
  | none => by_cases h : x.a = a <;> simp [h]
theorem drain_alone {S : Sta} (h : One S) {k : Nat} (hk : k < 6) : alone (drainS S 0) k = alone S k ∧ One (drainS S 0) := by
  have hl := drain_len S 0
  have h1 : One (drainS S 0) := ⟨h.ok.drain 0, by rw [hl.1, h.b], by rw [hl.2.2, h.w]⟩
  refine ⟨?_, h1⟩
  cases hb : bufOf S 0 with
  | nil => rw [drainS, drainE, h.core, hb]; rfl
  | cons x l =>
    obtain ⟨_, _, G⟩ := drain_gone h.core hb
    have hbd := drain_buf h.core
    rw [hb, List.tail_cons] at hbd
    obtain ⟨⟨m, hxa, hm⟩, _⟩ := h.ok.held _ (List.mem_of_getElem? (core_buf h.core)) x (by rw [hb]; exact List.mem_cons_self)
    have hwx : hasWordB S x.a = true := by rw [hxa]; exact h.word (by have := h.w; omega)
    rw [alone, alone, load_of h1.core (h1.word hk), load_of h.core (h.word hk), hbd, hb, nw_cons]
    cases nw l (8 * k) with
    | some s => rfl
    | none =>
      by_cases e : x.a = 8 * k
      · have := set_peek (by omega) hwx G.w
        rw [e] at this
        simp only [if_pos e, this.2.1]
      · have := set_peek_other (b := 8 * k) (by omega) (by omega) e hwx G.w
        simp only [if_neg e, this.2.1]
theorem dr_alone {S : Sta} (h : One S) (n : Nat) : One (dr S 0 n) ∧ ∀ k, k < 6 → alone (dr S 0 n) k = alone S k := by
  induction n with
  | zero => exact ⟨h, fun _ _ => rfl⟩
  | succ n ih => exact ⟨(drain_alone ih.1 (k := 0) (by decide)).2, fun k hk => ((drain_alone ih.1 hk).1).trans (ih.2 k hk)⟩
theorem flush_peek {S : Sta} (h : One S) {k : Nat} (hk : k < 6) : One (flushS S 0) ∧ alone (flushS S 0) k = alone S k ∧ peekV (flushS S 0) (8 * k) = alone S k := by
  obtain ⟨h1, h2⟩ := dr_alone h (bufOf S 0).length
  refine ⟨h1, h2 k hk, ?_⟩
  rw [← h2 k hk, alone]
  have h1' : One (flushS S 0) := h1
  have e : dr S 0 (bufOf S 0).length = flushS S 0 := rfl
  rw [e, load_of h1'.core (h1'.word hk), flush_buf h.core]
  rfl
theorem store_alone {S : Sta} (h : One S) {m : Nat} (hm : m < 6) (v : Int) : One (storeS S 0 (8 * m) v) ∧ ((storeE S 0 (8 * m) = 0 ∧ ∀ k, k < 6 → alone (storeS S 0 (8 * m) v) k = if k = m then v else alone S k) ∨ (storeE S 0 (8 * m) ≠ 0 ∧ storeS S 0 (8 * m) v = S)) := by
  have hz := (store_szs S 0 (8 * m) v).1
  have h1 : One (storeS S 0 (8 * m) v) := ⟨h.ok.store _ _ _ (by omega), by rw [hz.b, h.b], by rw [hz.w, h.w]⟩
  refine ⟨h1, ?_⟩
  by_cases he : storeE S 0 (8 * m) = 0
  · left
    refine ⟨he, fun k hk => ?_⟩
    obtain ⟨_, _, h3⟩ := storeE_zero he
    obtain ⟨_, _, H⟩ := store_hold (v := v) h.core (h.word hm) (by omega)
    rw [alone, alone, load_of h1.core (h1.word hk), load_of h.core (h.word hk), H.own h.core]
    by_cases e : k = m
    · subst e
      rw [if_pos rfl, nw_last (bufOf S 0) ⟨8 * (k : Int), v, S.stamps.length + 1⟩]
    · rw [if_neg e, nw_skip (bufOf S 0) ⟨8 * (m : Int), v, S.stamps.length + 1⟩ (show (8 * (m : Int)) ≠ 8 * (k : Int) by omega), (peek_congr H.w _).1]
      cases nw (bufOf S 0) (8 * k) <;> rfl
  · right
    exact ⟨he, by rw [storeS, if_neg he]⟩
theorem put_alone {S : Sta} (h : One S) {m : Nat} (hm : m < 6) (v : Int) : One (putS S 0 (8 * m) v) ∧ ∀ k, k < 6 → alone (putS S 0 (8 * m) v) k = if k = m then v else alone S k := by
  obtain ⟨hF, _, _⟩ := flush_peek h (k := 0) (by decide)
  have hS : putS S 0 (8 * m) v = reachS { flushS S 0 with stamps := (flushS S 0).stamps ++ [0] } ⟨8 * m, v, S.stamps.length + 1⟩ := by rw [putS, h.okb hm, if_pos rfl]
  have hbS : (putS S 0 (8 * m) v).bufs = (flushS S 0).bufs := by rw [hS]; rfl
  have hwS : (putS S 0 (8 * m) v).words = (flushS S 0).words.set ((8 * (m : Int)) / 8).toNat (v, (S.stamps.length : Int) + 1) := by rw [hS]; rfl
  have h1 : One (putS S 0 (8 * m) v) := ⟨h.ok.put _ _ _ (by omega), by rw [hbS, hF.b], by rw [hwS, List.length_set, hF.w]⟩
  refine ⟨h1, fun k hk => ?_⟩
  have hb : bufOf (putS S 0 (8 * m) v) 0 = [] := by rw [bufOf, hbS]; exact flush_buf h.core
  rw [alone, load_of h1.core (h1.word hk), hb]
  show peekV (putS S 0 (8 * m) v) (8 * k) = _
  by_cases e : k = m
  · subst e
    rw [if_pos rfl]
    exact (set_peek (by omega) (hF.word hk) hwS).2.1
  · rw [if_neg e, (set_peek_other (by omega) (by omega) (by omega) (hF.word hm) hwS).2.1, (flush_peek h hk).2.2]
end Go.Proofs.Ytjkjbcnafpljoaa
