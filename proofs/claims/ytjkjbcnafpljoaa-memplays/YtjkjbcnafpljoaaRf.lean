/- A store taken into a buffer. -/
import Derived.Test.YtjkjbcnafpljoaaRe
import Derived.Test.YtjkjbcnafpljoaaChx
import Derived.Great.BuildSlice
namespace Go.Proofs.Ytjkjbcnafpljoaa
open Go.RowKit
set_option linter.unusedVariables false

theorem step_app_lt {ops : Array Oper} {o : Oper} {a : Act} {w : World} {K : Act → World → Prop} {Q : Exit → Act → World → Prop} {E : Prop} (hgd : o.guard = none) (s x : Operand)
    (ho : o.op = .call { callee := .builtin .append, args := #[s, x], argTypes := #[52, 52] }) (v : Value) (l : List Lt) (hs : a.eval s = v) (hown : w.ownsRow 0 59 3 v l.length (flatL l))
    (b k c : Nat) (z : Lt) (hx : a.eval x = .slice (some ⟨b, k, none⟩) 1 c) (hc : w.cell? ⟨b, k, none⟩ = some (vU z.a) ∧ w.cell? ⟨b, k + 1, none⟩ = some (vU z.v) ∧ w.cell? ⟨b, k + 2, none⟩ = some (vI z.t)) (hl : l.length < 1000000000)
    (h : ∀ g cap w', w'.ownsRow 0 59 3 (.slice (some ⟨g, 0, none⟩) (l.length + 1) cap) (l ++ [z]).length (flatL (l ++ [z])) → w.grownBy w' v.ownBlock → (v.ownBlock = some g ∨ g = w.heap.size) → g < w'.heap.size →
      K (a.put o.dst (.slice (some ⟨g, 0, none⟩) (l.length + 1) cap)) w') : if Region.wanted o (yielded ops a.tmps) = true then Oper.wp Try.prog o a w K Q else E := by
  obtain ⟨i, h1, h2, h3, h4⟩ := inf59
  refine step_append_lies w hgd s x 52 ho 0 59 i nilL.val 3 24 Try.underlying52 h1 h2 h3 h4 rfl (by decide) v l.length (flatL l) hs hown ⟨b, k, none⟩ 1 c (flatL [z]) hx rfl ?_ (one_flatL _) (by decide) (by simp only [maxLen]; omega) (by omega) (Nat.zero_le _) w.heap.size rfl ?_
  · intro j u hj
    rw [add_zero_addr]
    match j with
    | 0 => simp [flatL] at hj; subst hj; exact hc.1
    | 1 => simp [flatL] at hj; subst hj; exact hc.2.1
    | 2 => simp [flatL] at hj; subst hj; exact hc.2.2
    | j + 3 => simp [flatL] at hj
  · intro g cap w' q1 q2 q3 q4
    refine h g cap w' ?_ q2 q3 q4
    rw [List.length_append, flatL_append]
    exact q1
/-- A memory, a store in a variable of the call's own, and a place for a result. -/
structure BP (g : Nat) (S : Sta) (L : Lay) (b d : Nat) (s r : Lt) (w0 w : World) : Prop where
  mem : MemAt g S L w
  box : w.heap[b]? = some (.cells s.cells 59)
  res : w.heap[d]? = some (.cells r.cells 59)
  ne : b ≠ d
  nb : w0.heap.size ≤ b
  nd : w0.heap.size ≤ d
  goes : Goes (Foot g L) w0 w
theorem bp_start {g : Nat} {S : Sta} {L : Lay} {w : World} (H : MemAt g S L w) (s : Lt) : BP g S L w.heap.size (w.heap.size + 1) s nilL w ((w.alloc (.cells s.cells 59)).alloc (.cells nilL.cells 59)) := by
  have h1 := below_alloc w (.cells s.cells 59)
  have h2 := below_alloc (w.alloc (.cells s.cells 59)) (.cells nilL.cells 59)
  have hs : (w.alloc (.cells s.cells 59)).heap.size = w.heap.size + 1 := by simp
  refine ⟨(H.grow h1).grow h2, ?_, ?_, by omega, by omega, by omega, (goes_of_below h1).grow h2⟩
  · rw [h2.block _ (by omega)]; exact heap_alloc_new _ _
  · rw [← hs]; exact heap_alloc_new _ _
theorem BP.c {g : Nat} {S : Sta} {L : Lay} {b d : Nat} {s r : Lt} {w0 w : World} (h : BP g S L b d s r w0 w) : w.cell? ⟨b, 0, none⟩ = some (vU s.a) ∧ w.cell? ⟨b, 1, none⟩ = some (vU s.v) ∧ w.cell? ⟨b, 2, none⟩ = some (vI s.t) := by
  rw [cell_of_row _ _ _ _ _ _ h.box, cell_of_row _ _ _ _ _ _ h.box, cell_of_row _ _ _ _ _ _ h.box]
  exact ⟨rfl, rfl, rfl⟩
theorem BP.drewN {g : Nat} {S : Sta} {L : Lay} {b d : Nat} {s r : Lt} {w0 w : World} (h : BP g S L b d s r w0 w) (n : Nat) : BP g S L b d s r w0 (w.drewN n) := ⟨h.mem.keep fun _ _ => rfl, h.box, h.res, h.ne, h.nb, h.nd, ⟨h.goes.os, h.goes.tape, h.goes.output, h.goes.size, h.goes.block⟩⟩
/-- The result laid down. -/
theorem BP.lay {g : Nat} {S : Sta} {L : Lay} {b d : Nat} {s r : Lt} {w0 w : World} (h : BP g S L b d s r w0 w) (hf : ∀ k, Foot g L k → k < w0.heap.size) (x : Lt) : BP g S L b d s x w0 (w.setRow d x.cells) :=
  ⟨h.mem.keep fun k hk => setRow_other _ _ _ _ (by have := hf k hk; have := h.nd; omega), by rw [setRow_other _ _ _ _ h.ne]; exact h.box, setRow_heap _ _ _ _ _ _ h.res, h.ne, h.nb, h.nd, h.goes.trans (goes_setRow (F := fun k => k = d) w (b := d) rfl x.cells) fun k hk e => by have := h.nd; have e : k = d := e; omega⟩
theorem wpList_lay {ops : Array Oper} {rest : List Oper} {o : Oper} {a : Act} {w w0 : World} {Q : Exit → Act → World → Prop} {g b d : Nat} {S : Sta} {L : Lay} {s r : Lt} (h : BP g S L b d s r w0 w) (hf : ∀ k, Foot g L k → k < w0.heap.size) (hgd : o.guard = none) (x y : Operand) (ho : o.op = .store 59 x y)
    (hx : a.eval x = ptr d 0) (z1 z2 z3 : Int) (hy : a.eval y = .agg #[vU z1, vU z2, vI z3]) (hK : ∀ w2, BP g S L b d s ⟨z1, z2, z3⟩ w0 w2 → wpList Try.prog ops Q rest (a.put o.dst undef) w2) : wpList Try.prog ops Q (o :: rest) a w :=
  wpList_store_row hgd 59 x y ho _ _ hx hy 59 _ h.res (info59 _ _ _) rfl (by simp [Value.oneCell']) (hK _ (h.lay hf ⟨z1, z2, z3⟩))
theorem BP.turn {g : Nat} {S : Sta} {L : Lay} {b d : Nat} {s r : Lt} {w0 w : World} (h : BP g S L b d s r w0 w) : Turn g L S w0 w := ⟨L, h.mem, h.goes, fun _ hk => .inl hk⟩
set_option maxRecDepth 4000 in
theorem hold_full (g : Nat) (S : Sta) (L : Lay) (k : Nat) (u : Value) (l : List Lt) (s : Lt) (w : World) (H : MemAt g S L w) (hu : L.hv[k]? = some u) (hl : S.bufs[k]? = some l) (hd : S.depth ≤ l.length) : Calls Try.prog 49 #[ptr L.gb (k * 2), s.val] w fun e w' => e = .returned (.tuple #[nilL.val, vI 30]) ∧ Turn g L S w w' := by
  obtain ⟨ao, cap, e, _, _⟩ := own_len (H.held k u l hu hl)
  have hf : ∀ k, Foot g L k → k < w.heap.size := fun k hk => H.lt hk
  go_enter Try.func49, Try.ntmps49
  go_upto_region 1 with fail
  generalize h1 : World.alloc (World.alloc w _) _ = w1
  have B : BP g S L w.heap.size (w.heap.size + 1) s nilL w w1 := by rw [← h1]; exact bp_start H s
  clear h1
  generalize w.heap.size = b at B ⊢
  obtain ⟨c1, c2⟩ := B.mem.cb hu
  rw [e] at c2
  clear e H
  go_quiet (fail)
  replace B := B.drewN nq
  generalize w1.drewN nq = w2 at B ⊢
  clear c1 c2
  go_wp2_with ((with_reducible refine wpList_lay B hf rfl _ _ rfl rfl _ _ _ rfl ?_); intro w9 B; simp only [Act.put])
  exact bodyPost_ret (back_le rfl _ _ _ _ _ _ rfl B.res) rfl ⟨rfl, B.turn⟩
/-- A buffer's own row turned elsewhere, then told to the memory. -/
theorem MemAt.holdB {g : Nat} {S : Sta} {L : Lay} {w1 w2 : World} {k : Nat} {u : Value} (H : MemAt g S L w1) (hu : L.hv[k]? = some u) {q cap n : Nat} {l : List Lt} (q1 : w2.ownsRow 0 59 3 (.slice (some ⟨q, 0, none⟩) n cap) l.length (flatL l)) (q2 : w1.grownBy w2 u.ownBlock) (q3 : u.ownBlock = some q ∨ q = w1.heap.size) :
    Turn g L { S with bufs := S.bufs.set k l } w1 (w2.setCell ⟨L.gb, k * 2 + 1, none⟩ (.slice (some ⟨q, 0, none⟩) n cap)) := by
  obtain ⟨k', l0, hk', hl0, ho⟩ := H.heldOf (List.mem_of_getElem? hu)
  have hgb : u.ownBlock ≠ some L.gb := own_ne H.bufs ho (by decide)
  have hT : w2.heap[L.gb]? = some (.cells (flatB S.depth L.hv).toArray 77) := by
    rw [q2.block _ (lt_of_some H.bufs) (fun e => hgb e.symm)]; exact H.bufs
  have hne : q ≠ L.gb := by
    rcases q1.2 with ⟨h0, _⟩ | ⟨q', cap', cur, h0, _, hq, _⟩
    · cases h0
    · cases h0
      exact ne_of_type hq hT (by decide)
  have hall : ∀ b, b < w1.heap.size → b ≠ L.gb → u.ownBlock ≠ some b → (w2.setRow L.gb ((flatB S.depth L.hv).toArray.setIfInBounds (k * 2 + 1) (.slice (some ⟨q, 0, none⟩) n cap))).heap[b]? = w1.heap[b]? := by
    intro b hb h1 h2
    rw [setRow_other _ _ _ _ h1, q2.block b hb (fun e => h2 e.symm)]
  rw [setCell_eq_setRow _ _ _ _ _ _ _ hT]
  have hmem := H.turnB (k := k) (v := u) (v' := .slice (some ⟨q, 0, none⟩) n cap) (l' := l) hu (by rw [size_setRow]; exact q2.size) hall (by rw [setRow_heap _ _ _ _ _ _ hT, List.setIfInBounds_toArray, flatB_set])
    (own_of_block q1 fun b hb => setRow_other _ _ _ _ (by rintro rfl; exact hne (by simpa [Value.ownBlock] using hb)))
    (by
      intro b hb
      obtain rfl : q = b := by simpa [Value.ownBlock] using hb
      rcases q3 with e | e
      · exact .inl e
      · exact .inr (by omega))
  refine ⟨_, hmem, ⟨q2.os, q2.tape, q2.output, by rw [size_setRow]; exact q2.size, ?_⟩, ?_⟩
  · intro b hb hn
    exact hall b hb (fun e => hn (.inr (.inr (.inl e)))) (fun e => hn (.inr (.inr (.inr (.inr ⟨u, List.mem_of_getElem? hu, e⟩)))))
  · rintro b (e | e | e | e | ⟨v, hv, e⟩)
    · exact .inl (.inl e)
    · exact .inl (.inr (.inl e))
    · exact .inl (.inr (.inr (.inl e)))
    · exact .inl (.inr (.inr (.inr (.inl e))))
    · rcases List.mem_or_eq_of_mem_set hv with h | h
      · exact .inl (.inr (.inr (.inr (.inr ⟨v, h, e⟩))))
      · subst h
        obtain rfl : q = b := by simpa [Value.ownBlock] using e
        rcases q3 with e | e
        · exact .inl (.inr (.inr (.inr (.inr ⟨u, List.mem_of_getElem? hu, e⟩))))
        · exact .inr (by omega)
/-- A buffer that was turned behind a call's own variables, and the result laid down. -/
theorem BP.then {g : Nat} {S S' : Sta} {L : Lay} {b d : Nat} {s r : Lt} {w w1 w2 : World} (h : BP g S L b d s r w w1) (t : Turn g L S' w1 w2) (hf : ∀ k, Foot g L k → k < w.heap.size) : w2.heap[b]? = some (.cells s.cells 59) ∧ w2.heap[d]? = some (.cells r.cells 59) := by
  have h1 := h.nb
  have h2 := h.nd
  refine ⟨?_, ?_⟩
  · rw [t.other (lt_of_some h.box) (fun e => by have := hf _ e; omega)]; exact h.box
  · rw [t.other (lt_of_some h.res) (fun e => by have := hf _ e; omega)]; exact h.res
theorem BP.end {g : Nat} {S S' : Sta} {L : Lay} {b d : Nat} {s r : Lt} {w w1 w2 : World} (h : BP g S L b d s r w w1) (t : Turn g L S' w1 w2) (hf : ∀ k, Foot g L k → k < w.heap.size) (x : Lt) : Turn g L S' w (w2.setRow d x.cells) := by
  have h2 := h.nd
  have h3 := lt_of_some h.res
  obtain ⟨L', m, go, ft⟩ := t
  have hd : ¬ Foot g L' d := fun e => by
    rcases ft d e with e | e
    · have := hf _ e; omega
    · omega
  refine ⟨L', m.keep fun k hk => setRow_other _ _ _ _ (fun e => hd (e ▸ hk)), ?_, fun k hk => (ft k hk).imp id fun e => Nat.le_trans h.goes.size e⟩
  refine (h.goes.trans go fun _ _ e => e).trans (goes_setRow (F := fun k => k = d) w2 (b := d) rfl x.cells) fun k hk e => ?_
  have e : k = d := e
  omega
def HC (g : Nat) (S : Sta) (L : Lay) (b d : Nat) (s : Lt) (u : Value) (l : List Lt) (k : Nat) (w : World) (N : Nat) : Nat → Option Value → World → Prop
  | 0, none, w' => BP g S L b d s nilL w w' ∧ w'.heap.size = N
  | 1, none, w' => BP g S L b d s nilL w w' ∧ w'.heap[N]? = some (.cells s.cells 59)
  | 2, some v, w' => ∃ w1 q cap, v = .slice (some ⟨q, 0, none⟩) (l.length + 1) cap ∧ BP g S L b d s nilL w w1 ∧ w'.ownsRow 0 59 3 v (l ++ [s]).length (flatL (l ++ [s])) ∧ w1.grownBy w' u.ownBlock ∧ (u.ownBlock = some q ∨ q = w1.heap.size)
  | 3, some v, w' => ∃ w1, BP g S L b d s nilL w w1 ∧ Turn g L { S with bufs := S.bufs.set k (l ++ [s]) } w1 w'
  | _, _, _ => False
theorem hc_reads {g : Nat} {S : Sta} {L : Lay} {b d : Nat} {s : Lt} {u : Value} {l : List Lt} {k : Nat} {w w' : World} {N : Nat} (hu : L.hv[k]? = some u) (hl : S.bufs[k]? = some l) (hf : ∀ k, Foot g L k → k < w.heap.size) {j : Nat} {ou : Option Value} (hj : j ≤ 2) (h : HC g S L b d s u l k w N j ou w') :
    w'.cell? ⟨L.gb, k * 2 + 1, none⟩ = some u ∧ w'.cell? ⟨b, 0, none⟩ = some (vU s.a) ∧ w'.cell? ⟨b, 1, none⟩ = some (vU s.v) ∧ w'.cell? ⟨b, 2, none⟩ = some (vI s.t) ∧ w'.heap[b]? = some (.cells s.cells 59) := by
  have key : ∀ w1, BP g S L b d s nilL w w1 → w1.cell? ⟨L.gb, k * 2 + 1, none⟩ = some u ∧ w1.cell? ⟨b, 0, none⟩ = some (vU s.a) ∧ w1.cell? ⟨b, 1, none⟩ = some (vU s.v) ∧ w1.cell? ⟨b, 2, none⟩ = some (vI s.t) ∧ w1.heap[b]? = some (.cells s.cells 59) := fun w1 B => ⟨(B.mem.cb hu).2, B.c.1, B.c.2.1, B.c.2.2, B.box⟩
  match j, ou, hj, h with
  | 0, none, _, h => exact key _ h.1
  | 1, none, _, h => exact key _ h.1
  | 2, some v, _, ⟨w1, q, cap, e, B, ho, hg, _⟩ =>
    have hown := B.mem.held k u l hu hl
    obtain ⟨k1, k2, k3, k4, k5⟩ := key w1 B
    have e1 : w'.heap[L.gb]? = w1.heap[L.gb]? := hg.block _ (lt_of_some B.mem.bufs) (fun e => own_ne B.mem.bufs hown (by decide) e.symm)
    have e2 : w'.heap[b]? = w1.heap[b]? := hg.block _ (lt_of_some B.box) (fun e' => by
      have h1 := hf b (.inr (.inr (.inr (.inr ⟨u, List.mem_of_getElem? hu, e'.symm⟩))))
      have := B.nb
      omega)
    rw [World.cell?_of_block (w := w1) (a := ⟨L.gb, k * 2 + 1, none⟩) e1, World.cell?_of_block (w := w1) (a := ⟨b, 0, none⟩) e2, World.cell?_of_block (w := w1) (a := ⟨b, 1, none⟩) e2, World.cell?_of_block (w := w1) (a := ⟨b, 2, none⟩) e2, e2]
    exact ⟨k1, k2, k3, k4, k5⟩
theorem upon_pureX {P : Program} {C : World → Prop} {w : World} {c : Value} {r : Result Next} (hC : C w) (h : ∀ F : Value → World → Prop, F c w → Chn.upon P F w r) : Chn.upon P (fun v w' => v = c ∧ C w') w r := h _ ⟨rfl, hC⟩
theorem BP.new {g : Nat} {S : Sta} {L : Lay} {b d : Nat} {s r : Lt} {w0 w : World} (h : BP g S L b d s r w0 w) (o : Obj) : BP g S L b d s r w0 (w.alloc o) := by
  have hb := below_alloc w o
  exact ⟨h.mem.grow hb, by rw [hb.block _ (lt_of_some h.box)]; exact h.box, by rw [hb.block _ (lt_of_some h.res)]; exact h.res, h.ne, h.nb, h.nd, h.goes.grow hb⟩
theorem chn_app {o : Oper} {a : Act} {w : World} {F : Value → World → Prop} (s x : Operand) (ho : o.op = .call { callee := .builtin .append, args := #[s, x], argTypes := #[52, 52] }) (v : Value) (l : List Lt) (hs : a.eval s = v) (hown : w.ownsRow 0 59 3 v l.length (flatL l))
    (b k c : Nat) (z : Lt) (hx : a.eval x = .slice (some ⟨b, k, none⟩) 1 c) (hc : w.cell? ⟨b, k, none⟩ = some (vU z.a) ∧ w.cell? ⟨b, k + 1, none⟩ = some (vU z.v) ∧ w.cell? ⟨b, k + 2, none⟩ = some (vI z.t)) (hl : l.length < 1000000000)
    (h : ∀ g cap w', w'.ownsRow 0 59 3 (.slice (some ⟨g, 0, none⟩) (l.length + 1) cap) (l ++ [z]).length (flatL (l ++ [z])) → w.grownBy w' v.ownBlock → (v.ownBlock = some g ∨ g = w.heap.size) → F (.slice (some ⟨g, 0, none⟩) (l.length + 1) cap) w') :
    Chn.upon Try.prog F w ((execOp a.eval o).run Try.prog w) := by
  obtain ⟨i, h1, h2, h3, h4⟩ := inf59
  obtain ⟨g, cap, w', hr, q1, q2, q3, q4⟩ := run_append_lies (P := Try.prog) w 52 o.type 0 59 i nilL.val 3 24 Try.underlying52 h1 h2 h3 h4 rfl (by decide) v l.length (flatL l) hown ⟨b, k, none⟩ 1 c (flatL [z]) rfl (by
    intro j u hj
    rw [add_zero_addr]
    match j with
    | 0 => simp [flatL] at hj; subst hj; exact hc.1
    | 1 => simp [flatL] at hj; subst hj; exact hc.2.1
    | 2 => simp [flatL] at hj; subst hj; exact hc.2.2
    | j + 3 => simp [flatL] at hj) (one_flatL _) (by decide) (by simp only [maxLen]; omega) (by omega) (Nat.zero_le _) w.heap.size rfl
  unfold execOp
  simp only [ho, resolve, invoke, builtin, Sem.run_bind, Sem.run_pure, Result.andThen_ok, List.map_toArray, List.map_cons, List.map_nil, hs, hx, hr]
  refine h g cap w' ?_ q2 q3
  rw [List.length_append, flatL_append]
  exact q1
theorem one3 (x y z : Int) : (#[vU x, vU y, vI z] : Array Value).all (·.oneCell') = true := by simp [Value.oneCell']
theorem chn_build {o : Oper} {a : Act} {w : World} {C : World → Prop} {N : Nat} (hN : w.heap.size = N) (x : Operand) (ho : o.op = .buildSlice 52 1 #[(0, x)]) (s : Lt) (hx : a.eval x = s.val) (hC : C (w.alloc (.cells s.cells 59))) :
    Chn.upon Try.prog (fun v w' => v = .slice (some ⟨N, 0, none⟩) 1 1 ∧ C w') w ((execOp a.eval o).run Try.prog w) := by
  obtain ⟨i, h1, h2, h3, h4⟩ := inf59
  have hf : Instr.fill (fun j => some (j * i.size, i.size)) ((Array.range (1 * i.size)).map (nilL.val.cells[· % nilL.val.cells.size]!)) (#[(0, s.val)] : Array (Nat × Value)).toList = some s.cells := by
    rw [h3]; kernel_rfl
  have hr := run_buildSlice (P := Try.prog) w 52 59 1 #[(0, s.val)] s.cells i nilL.val Try.underlying52 h1 h2 (by rw [h3]; decide) (by rw [h3]; decide) hf
  unfold execOp
  simp only [ho, Sem.run_bind, List.map_toArray, List.map_cons, List.map_nil, hx, hr, Result.andThen_ok]
  exact ⟨by rw [hN], hC⟩
theorem wpList_put59 {ops : Array Oper} {rest : List Oper} {o : Oper} {a : Act} {w : World} {Q : Exit → Act → World → Prop} {d : Nat} {r : Lt} (e : w.heap[d]? = some (.cells r.cells 59)) (hgd : o.guard = none) (x y : Operand) (ho : o.op = .store 59 x y)
    (hx : a.eval x = ptr d 0) (z1 z2 z3 : Int) (hy : a.eval y = .agg #[vU z1, vU z2, vI z3]) (hK : wpList Try.prog ops Q rest (a.put o.dst undef) (w.setRow d (Lt.cells ⟨z1, z2, z3⟩))) : wpList Try.prog ops Q (o :: rest) a w :=
  wpList_store_row hgd 59 x y ho _ _ hx hy 59 _ e (info59 _ _ _) rfl (one3 _ _ _) hK
theorem info52 : (Try.prog.info? 52).map (·.size) = some 1 := by kernel_rfl
set_option maxRecDepth 4000 in
theorem hold_ok (g : Nat) (S : Sta) (L : Lay) (k : Nat) (u : Value) (l : List Lt) (s : Lt) (w : World) (H : MemAt g S L w) (hu : L.hv[k]? = some u) (hl : S.bufs[k]? = some l) (hd : l.length < S.depth) (hd2 : S.depth ≤ 32) : Calls Try.prog 49 #[ptr L.gb (k * 2), s.val] w fun e w' => e = .returned (.tuple #[s.val, vI 0]) ∧ Turn g L { S with bufs := S.bufs.set k (l ++ [s]) } w w' := by
  have hf : ∀ k, Foot g L k → k < w.heap.size := fun k hk => H.lt hk
  go_enter Try.func49, Try.ntmps49
  go_upto_region 1 with fail
  generalize h1 : World.alloc (World.alloc w _) _ = w1
  have B : BP g S L w.heap.size (w.heap.size + 1) s nilL w w1 := by rw [← h1]; exact bp_start H s
  clear h1
  generalize w.heap.size = b at B ⊢
  obtain ⟨c1, c2⟩ := B.mem.cb hu
  obtain ⟨ao, cap, e, _, _⟩ := own_len (H.held k u l hu hl)
  rw [e] at c2
  have hnd : ¬ S.depth ≤ (l.length : Int) := by omega
  clear H
  go_quiet (fail)
  replace B := B.drewN nq
  generalize w1.drewN nq = w2 at B ⊢
  clear c1 c2 e
  go_upto_region 3 with fail
  have hst : HC g S L b (b + 1) s u l k w w2.heap.size 0 none { w2 with drawn := w2.drawn + 1 } := ⟨B.drewN 1, rfl⟩
  have hrd := fun (j : Nat) (ou : Option Value) (hj : j ≤ 2) (w' : World) (h : HC g S L b (b + 1) s u l k w w2.heap.size j ou w') => hc_reads hu hl hf hj h
  generalize w2.heap.size = N at hst hrd ⊢
  refine Chn.wp_region_chainX (HC g S L b (b + 1) s u l k w N) [6, 7, 10] [3, 3, 3, 3, 2, 2, 3, 3, 3, 3, 3] 7 (fun v => [ptr L.gb (k * 2), ptr L.gb (k * 2), ptr L.gb (k * 2), ptr L.gb (k * 2 + 1), u, s.val, .slice (some ⟨N, 0, none⟩) 1 1, v, ptr L.gb (k * 2), ptr L.gb (k * 2 + 1), undef]) (by kernel_rfl) (by kernel_rfl) (by kernel_rfl) (by kernel_rfl) (by kernel_rfl) (by kernel_rfl) (fun v q hq => by match q, hq with | 0, _ => rfl | 1, _ => rfl | 2, _ => rfl | 3, _ => rfl | 4, _ => rfl | 5, _ => rfl | 6, _ => rfl | 8, _ => rfl | 9, _ => rfl | 10, _ => rfl | n + 11, _ => rfl) (fun v => rfl) (by decide) hst ?_
  intro v
  iterate 4 (refine ⟨fun j ou w1 hj hn hC => by exact Chn.upon_pure hC (fun F hF => by (go_simp <;> exact hF)), ?_⟩; simp only [Act.put, List.setIfInBounds_toArray, List.set_cons_succ, List.set_cons_zero])
  refine ⟨fun j ou w1 hj hn hC => by have z := (hrd j ou hj w1 hC).1; exact Chn.upon_pure hC (fun F hF => by (go_simp <;> exact hF)), ?_⟩
  simp only [Act.put, List.setIfInBounds_toArray, List.set_cons_succ, List.set_cons_zero]
  refine ⟨fun j ou w1 hj hn hC => by obtain ⟨_, z0, z1, z2, _⟩ := hrd j ou hj w1 hC; exact Chn.upon_pure hC (fun F hF => by (go_simp <;> exact hF)), ?_⟩
  simp only [Act.put, List.setIfInBounds_toArray, List.set_cons_succ, List.set_cons_zero]
  refine ⟨fun ou w1 hn hC => by
    match ou, hC with
    | none, hC => exact chn_build hC.2 (.tmp 22) rfl s rfl ⟨hC.1.new _, by rw [← hC.2]; exact heap_alloc_new _ _⟩, ?_⟩
  simp only [Act.put, List.setIfInBounds_toArray, List.set_cons_succ, List.set_cons_zero]
  refine ⟨fun w1 hC => by
    have z : w1.cell? ⟨N, 0, none⟩ = some (vU s.a) ∧ w1.cell? ⟨N, 0 + 1, none⟩ = some (vU s.v) ∧ w1.cell? ⟨N, 0 + 2, none⟩ = some (vI s.t) := by
      rw [cell_of_row _ _ _ _ _ _ hC.2, cell_of_row _ _ _ _ _ _ hC.2, cell_of_row _ _ _ _ _ _ hC.2]
      exact ⟨rfl, rfl, rfl⟩
    exact chn_app _ _ rfl u l rfl (hC.1.mem.held k u l hu hl) N 0 1 s rfl z (by omega) (fun q cap w2 q1 q2 q3 => ⟨w1, q, cap, rfl, hC.1, q1, q2, q3⟩), ?_⟩
  simp only [Act.put, List.setIfInBounds_toArray, List.set_cons_succ, List.set_cons_zero]
  iterate 2 (refine ⟨fun j ou w1 hj hn hC => by exact Chn.upon_pure hC (fun F hF => by (go_simp <;> exact hF)), ?_⟩; simp only [Act.put, List.setIfInBounds_toArray, List.set_cons_succ, List.set_cons_zero])
  refine ⟨fun ou w1 hn hC => by
    obtain rfl := hn (by kernel_rfl)
    have z := (hrd 2 (some v) (by decide) w1 hC).1
    obtain ⟨w0, q, cap, rfl, B0, ho, hg, hq⟩ := hC
    have hgb : u.ownBlock ≠ some L.gb := own_ne B0.mem.bufs (B0.mem.held k u l hu hl) (by decide)
    have fz : w1.frozen? ⟨L.gb, k * 2 + 1, none⟩ = false := (World.frozen?_of_block (w := w0) (a := ⟨L.gb, k * 2 + 1, none⟩) (hg.block _ (lt_of_some B0.mem.bufs) (fun e => hgb e.symm))).trans (frozen_of_row _ _ _ _ _ B0.mem.bufs)
    exact chn_store 52 _ _ rfl L.gb (k * 2 + 1) rfl _ rfl (run_cell w1 52 L.gb (k * 2 + 1) _ _ info52 rfl rfl z fz) ⟨w0, B0, B0.mem.holdB hu ho hg hq⟩, ?_⟩
  simp only [Act.put]
  intro w5 hC
  obtain ⟨w0, B0, T⟩ := hC
  obtain ⟨e1, e2⟩ := B0.then T hf
  have hE := B0.end T hf s
  have z0 : w5.cell? ⟨b, 0, none⟩ = some (vU s.a) := by rw [cell_of_row _ _ _ _ _ _ e1]; rfl
  have z1 : w5.cell? ⟨b, 1, none⟩ = some (vU s.v) := by rw [cell_of_row _ _ _ _ _ _ e1]; rfl
  have z2 : w5.cell? ⟨b, 2, none⟩ = some (vI s.t) := by rw [cell_of_row _ _ _ _ _ _ e1]; rfl
  go_wp2_with ((with_reducible refine wpList_put59 e2 rfl _ _ rfl rfl _ _ _ rfl ?_); simp only [Act.put])
  exact bodyPost_ret (back_le rfl _ _ _ _ _ _ rfl (setRow_heap _ _ _ _ _ _ e2)) rfl ⟨rfl, hE⟩
end Go.Proofs.Ytjkjbcnafpljoaa
