/- Whether an instruction is right, as Right of package insn tells it: a contract, for every instruction. -/
import Derived.Test.YtcmilajlngnibaaRoomR
import Derived.Test.YtcmilajlngnibaaHold
import Derived.Test.YtcmilajlngnibaaSysR
namespace Go.Proofs.Ytcmilajlngnibaa
open Go.RowKit Go.Rel

def numbersB (i : Ins) : Bool := holdsB (regS (hasRd i.op)) i.rd && holdsB (regS (hasRn i.op)) i.rn && holdsB (regS (hasRm i.op)) i.rm && holdsB (regS (hasRa i.op)) i.ra && holdsB (subS i.op) i.sub && holdsB (immS i.op i.sub) i.imm && holdsB (imm2S i.op) i.imm2 && holdsB (amountS i.op) i.amount && holdsB (shiftS i.op) i.shift && holdsB (condS i.op) i.cond
def signsB (i : Ins) : Bool := (flagsR i.op i.sub || !i.flags) && (minusR i.op || !i.minus) && (notR i.op || !i.not) && (linkR i.op || !i.link)
def rightB (i : Ins) : Bool := decide (1 ≤ i.op) && decide (i.op ≤ 37) && (numbersB i && signsB i && rightSysB i.op i.sys && rightFormB i.op i.sub i.amount i.imm i.imm2)

def okS (s : Span) : Prop := s.st ≠ 0 ∨ (s.lo = 0 ∧ s.hi = 0)
theorem okS_up (n : Int) : okS (upToS n) := Or.inl (by simp [upToS])
theorem okS_zero : okS zeroS := Or.inr ⟨rfl, rfl⟩
theorem okS_reg (b : Bool) : okS (regS b) := by cases b <;> simp [okS, regS, h31, h1]
theorem okS_bif (b : Bool) {x y : Span} (hx : okS x) (hy : okS y) : okS (bif b then x else y) := by cases b <;> assumption
theorem okS_sub (op : Int) : okS (subS op) := okS_bif _ (okS_up _) (okS_bif _ (okS_up _) (okS_bif _ (Or.inl (by decide)) (okS_bif _ (okS_up _) okS_zero)))
theorem okS_shift (op : Int) : okS (shiftS op) := okS_bif _ (okS_up _) (okS_bif _ (okS_up _) okS_zero)
theorem okS_cond (op : Int) : okS (condS op) := okS_bif _ (okS_up _) okS_zero
theorem okS_imm2 (op : Int) : okS (imm2S op) := okS_bif _ (okS_up _) okS_zero
theorem okS_amount (op : Int) : okS (amountS op) := okS_bif _ (Or.inl (by decide)) (okS_bif _ (okS_up _) (okS_bif _ (okS_up _) (okS_bif _ (Or.inl (by decide)) (okS_bif _ (Or.inl (by decide)) okS_zero))))
theorem okS_imm (op sub : Int) : okS (immS op sub) := okS_bif _ (okS_up _) (okS_bif _ (okS_up _) (okS_bif _ (okS_up _) (okS_bif _ (okS_bif _ (Or.inl (by decide)) (Or.inl (by decide))) (okS_bif _ (Or.inl (by decide)) (okS_bif _ (Or.inl (by decide)) (okS_bif _ (Or.inl (by decide)) (okS_bif _ (Or.inl (by decide)) (okS_bif _ (Or.inl (by decide)) (okS_bif _ (okS_up _) (okS_bif _ (okS_up _) okS_zero))))))))))

theorem numbers_r (i : Ins) (w : World) :
    Calls Try.prog 53 #[.agg (cellsR i (immS i.op i.sub) (amountS i.op) (imm2S i.op)), i.val] w fun e w' => e = .returned (.bool (numbersB i)) ∧ Below w.heap.size w w' :=
  numbers_c 0 (h31 (hasRd i.op)) (h1 (hasRd i.op)) 0 (h31 (hasRn i.op)) (h1 (hasRn i.op)) 0 (h31 (hasRm i.op)) (h1 (hasRm i.op)) 0 (h31 (hasRa i.op)) (h1 (hasRa i.op)) (subS i.op).lo (subS i.op).hi (subS i.op).st (immS i.op i.sub).lo (immS i.op i.sub).hi (immS i.op i.sub).st (imm2S i.op).lo (imm2S i.op).hi (imm2S i.op).st (amountS i.op).lo (amountS i.op).hi (amountS i.op).st (shiftS i.op).lo (shiftS i.op).hi (shiftS i.op).st (condS i.op).lo (condS i.op).hi (condS i.op).st (flagsR i.op i.sub) (minusR i.op) (notR i.op) (linkR i.op) i
    (okS_reg _) (okS_reg _) (okS_reg _) (okS_reg _) (okS_sub _) (okS_imm _ _) (okS_imm2 _) (okS_amount _) (okS_shift _) (okS_cond _) w
theorem signs_r (i : Ins) (w : World) :
    Calls Try.prog 54 #[.agg (cellsR i (immS i.op i.sub) (amountS i.op) (imm2S i.op)), i.val] w fun e w' => e = .returned (.bool (signsB i)) ∧ Below w.heap.size w w' :=
  signs_c 0 (h31 (hasRd i.op)) (h1 (hasRd i.op)) 0 (h31 (hasRn i.op)) (h1 (hasRn i.op)) 0 (h31 (hasRm i.op)) (h1 (hasRm i.op)) 0 (h31 (hasRa i.op)) (h1 (hasRa i.op)) (subS i.op).lo (subS i.op).hi (subS i.op).st (immS i.op i.sub).lo (immS i.op i.sub).hi (immS i.op i.sub).st (imm2S i.op).lo (imm2S i.op).hi (imm2S i.op).st (amountS i.op).lo (amountS i.op).hi (amountS i.op).st (shiftS i.op).lo (shiftS i.op).hi (shiftS i.op).st (condS i.op).lo (condS i.op).hi (condS i.op).st (flagsR i.op i.sub) (minusR i.op) (notR i.op) (linkR i.op) i w

/-- A whole row read, by an operation whose guard says yes, or that has none. -/
theorem wpList_load_if {P : Program} {ops : Array Oper} {rest : List Oper} {o : Oper} {a : Act} {w : World} {Q : Exit → Act → World → Prop} (hw : Region.wanted o (yielded ops a.tmps) = true) (ty : TypeId) (x : Operand) (ho : o.op = .load ty x)
    (g : Nat) (hx : a.eval x = .pointer (some ⟨g, 0, none⟩)) (t : TypeId) (cs : Array Value) (fr : Nat × Nat) (d : TypeDesc) (hg : w.heap[g]? = some (.cells cs t fr))
    (hu : P.underlying ty = some d) (hd : (match d with | .struct _ | .array _ _ => true | _ => false) = true) (hi : (P.info? ty).map (·.size) = some cs.size)
    (h : wpList P ops Q rest (a.put o.dst (.agg cs)) w) : wpList P ops Q (o :: rest) a w :=
  BigFrame.wpList_want hw fun _ hK => wp_load_row ty x ho g hx t cs fr d hg hu hd hi (hK _ _ h)

/-- Two blocks of Right's own: the instruction's box, and further on the room. -/
structure Two (i : Ins) (w0 : World) (b : Nat) (R : Array Value) (w : World) : Prop where
  below : Below w0.heap.size w0 w
  box : w.heap[w0.heap.size]? = some (.cells i.cells 25)
  room : w.heap[b]? = some (.cells R 56)

theorem Two.grow {i : Ins} {w0 w w' : World} {b : Nat} {R : Array Value} (h : Two i w0 b R w) (hb : Below w.heap.size w w') : Two i w0 b R w' := by
  have h1 := (Array.getElem?_eq_some_iff.1 h.box).1
  have h2 := (Array.getElem?_eq_some_iff.1 h.room).1
  refine ⟨below_then h.below hb, ?_, ?_⟩
  · rw [hb.block _ h1]; exact h.box
  · rw [hb.block _ h2]; exact h.room

theorem two_start {i : Ins} {w w1 : World} (h : Below (w.alloc (.cells i.cells 25)).heap.size (w.alloc (.cells i.cells 25)) w1) (Z R : Array Value) : Two i w w1.heap.size R ((w1.alloc (.cells Z 56)).setRow w1.heap.size R) := by
  have e1 : (w.alloc (.cells i.cells 25)).heap.size = w.heap.size + 1 := Array.size_push ..
  have hs := h.size
  have hx : Below w.heap.size w (w1.alloc (.cells Z 56)) := below_then (below_alloc _ _) (below_then h (below_alloc _ _))
  refine ⟨hx.trans ⟨rfl, rfl, rfl, by rw [setRow_size]; exact Nat.le_refl _, fun k hk => setRow_other _ _ _ _ (by omega)⟩, ?_, setRow_heap _ _ _ _ _ _ (heap_alloc_new _ _)⟩
  rw [setRow_other _ _ _ _ (by omega), Below.heap_alloc _ _ _ (by omega), h.block _ (by omega), heap_alloc_new]

set_option maxRecDepth 8000 in
set_option maxHeartbeats 8000000 in
theorem right_c (i : Ins) (w : World) :
    Calls Try.prog 15 #[i.val] w fun e w' => e = .returned (.bool (rightB i)) ∧ Below w.heap.size w w' := by
  by_cases ha : 1 ≤ i.op
  · by_cases hb : i.op ≤ 37
    · have hR : Hid (rightB i = (numbersB i && signsB i && rightSysB i.op i.sys && rightFormB i.op i.sub i.amount i.imm i.imm2)) := by show _ = _; unfold rightB; simp [ha, hb]
      go_enter Try.func15, Try.ntmps15
      go_upto_region 3 with fail
      iterate 6 go_step
      refine (roomOf_c i _).mono ?_
      rintro e w1 ⟨rfl, hb1⟩
      dsimp only
      iterate 4 go_step
      refine wpList_store_row rfl 56 _ _ rfl w1.heap.size (cellsR i (immS i.op i.sub) (amountS i.op) (imm2S i.op)) rfl rfl 56 _ (heap_alloc_new _ _) (by kernel_rfl) rfl (cells_one _ _ _ _) ?_
      generalize hw2 : (w1.alloc _).setRow _ _ = w2
      have H2 : Two i w w1.heap.size (cellsR i (immS i.op i.sub) (amountS i.op) (imm2S i.op)) w2 := by rw [← hw2]; exact two_start hb1 _ _
      clear hw2 hb1
      generalize w1.heap.size = b at *
      simp only [Act.put]
      cases hN : numbersB i with
      | false =>
        repeat' (first | with_reducible refine then_exit ?_ | with_reducible refine then_normal ?_ | with_reducible refine inBlock_eq ?_ | with_reducible refine inBlock_ne rfl ?_ | with_reducible refine inBlock_normal ?_ | (refine wpList_load_if rfl 56 _ rfl b rfl 56 _ (0, 0) _ H2.room Try.underlying56 rfl (by kernel_rfl) ?_; simp only [Act.put, List.setIfInBounds_toArray, List.set_cons_succ, List.set_cons_zero]) | (refine wpList_load_if rfl 25 _ rfl w.heap.size rfl 25 _ (0, 0) _ H2.box Try.underlying25 rfl (by kernel_rfl) ?_; simp only [Act.put, List.setIfInBounds_toArray, List.set_cons_succ, List.set_cons_zero]) | (go_at_call 53; refine (numbers_r i _).mono ?_; rw [hN]; rintro e w3 ⟨rfl, hb3⟩; replace H2 := H2.grow hb3; clear hb3; dsimp only) | (go_at_call 54; refine (signs_r i _).mono ?_; rintro e w3 ⟨rfl, hb3⟩; replace H2 := H2.grow hb3; clear hb3; dsimp only) | (go_at_call 55; refine (rightSys_c i _).mono ?_; rintro e w3 ⟨rfl, hb3⟩; replace H2 := H2.grow hb3; clear hb3; dsimp only) | (go_at_call 56; refine (rightForm_c i _).mono ?_; rintro e w3 ⟨rfl, hb3⟩; replace H2 := H2.grow hb3; clear hb3; dsimp only) | go_step)
        go_ret
        exact ⟨ret_bool (by rw [hR.out, hN]; rfl), H2.below⟩
      | true =>
        cases hS : signsB i with
        | false =>
          repeat' (first | with_reducible refine then_exit ?_ | with_reducible refine then_normal ?_ | with_reducible refine inBlock_eq ?_ | with_reducible refine inBlock_ne rfl ?_ | with_reducible refine inBlock_normal ?_ | (refine wpList_load_if rfl 56 _ rfl b rfl 56 _ (0, 0) _ H2.room Try.underlying56 rfl (by kernel_rfl) ?_; simp only [Act.put, List.setIfInBounds_toArray, List.set_cons_succ, List.set_cons_zero]) | (refine wpList_load_if rfl 25 _ rfl w.heap.size rfl 25 _ (0, 0) _ H2.box Try.underlying25 rfl (by kernel_rfl) ?_; simp only [Act.put, List.setIfInBounds_toArray, List.set_cons_succ, List.set_cons_zero]) | (go_at_call 53; refine (numbers_r i _).mono ?_; rw [hN]; rintro e w3 ⟨rfl, hb3⟩; replace H2 := H2.grow hb3; clear hb3; dsimp only) | (go_at_call 54; refine (signs_r i _).mono ?_; rw [hS]; rintro e w3 ⟨rfl, hb3⟩; replace H2 := H2.grow hb3; clear hb3; dsimp only) | (go_at_call 55; refine (rightSys_c i _).mono ?_; rintro e w3 ⟨rfl, hb3⟩; replace H2 := H2.grow hb3; clear hb3; dsimp only) | (go_at_call 56; refine (rightForm_c i _).mono ?_; rintro e w3 ⟨rfl, hb3⟩; replace H2 := H2.grow hb3; clear hb3; dsimp only) | go_step)
          go_ret
          exact ⟨ret_bool (by rw [hR.out, hN, hS]; rfl), H2.below⟩
        | true =>
          cases hY : rightSysB i.op i.sys with
          | false =>
            repeat' (first | with_reducible refine then_exit ?_ | with_reducible refine then_normal ?_ | with_reducible refine inBlock_eq ?_ | with_reducible refine inBlock_ne rfl ?_ | with_reducible refine inBlock_normal ?_ | (refine wpList_load_if rfl 56 _ rfl b rfl 56 _ (0, 0) _ H2.room Try.underlying56 rfl (by kernel_rfl) ?_; simp only [Act.put, List.setIfInBounds_toArray, List.set_cons_succ, List.set_cons_zero]) | (refine wpList_load_if rfl 25 _ rfl w.heap.size rfl 25 _ (0, 0) _ H2.box Try.underlying25 rfl (by kernel_rfl) ?_; simp only [Act.put, List.setIfInBounds_toArray, List.set_cons_succ, List.set_cons_zero]) | (go_at_call 53; refine (numbers_r i _).mono ?_; rw [hN]; rintro e w3 ⟨rfl, hb3⟩; replace H2 := H2.grow hb3; clear hb3; dsimp only) | (go_at_call 54; refine (signs_r i _).mono ?_; rw [hS]; rintro e w3 ⟨rfl, hb3⟩; replace H2 := H2.grow hb3; clear hb3; dsimp only) | (go_at_call 55; refine (rightSys_c i _).mono ?_; rw [hY]; rintro e w3 ⟨rfl, hb3⟩; replace H2 := H2.grow hb3; clear hb3; dsimp only) | (go_at_call 56; refine (rightForm_c i _).mono ?_; rintro e w3 ⟨rfl, hb3⟩; replace H2 := H2.grow hb3; clear hb3; dsimp only) | go_step)
            go_ret
            exact ⟨ret_bool (by rw [hR.out, hN, hS, hY]; rfl), H2.below⟩
          | true =>
            repeat' (first | with_reducible refine then_exit ?_ | with_reducible refine then_normal ?_ | with_reducible refine inBlock_eq ?_ | with_reducible refine inBlock_ne rfl ?_ | with_reducible refine inBlock_normal ?_ | (refine wpList_load_if rfl 56 _ rfl b rfl 56 _ (0, 0) _ H2.room Try.underlying56 rfl (by kernel_rfl) ?_; simp only [Act.put, List.setIfInBounds_toArray, List.set_cons_succ, List.set_cons_zero]) | (refine wpList_load_if rfl 25 _ rfl w.heap.size rfl 25 _ (0, 0) _ H2.box Try.underlying25 rfl (by kernel_rfl) ?_; simp only [Act.put, List.setIfInBounds_toArray, List.set_cons_succ, List.set_cons_zero]) | (go_at_call 53; refine (numbers_r i _).mono ?_; rw [hN]; rintro e w3 ⟨rfl, hb3⟩; replace H2 := H2.grow hb3; clear hb3; dsimp only) | (go_at_call 54; refine (signs_r i _).mono ?_; rw [hS]; rintro e w3 ⟨rfl, hb3⟩; replace H2 := H2.grow hb3; clear hb3; dsimp only) | (go_at_call 55; refine (rightSys_c i _).mono ?_; rw [hY]; rintro e w3 ⟨rfl, hb3⟩; replace H2 := H2.grow hb3; clear hb3; dsimp only) | (go_at_call 56; refine (rightForm_c i _).mono ?_; rintro e w3 ⟨rfl, hb3⟩; replace H2 := H2.grow hb3; clear hb3; dsimp only) | go_step)
            go_ret
            exact ⟨ret_bool (by rw [hR.out, hN, hS, hY]; rfl), H2.below⟩
    · have hR : Hid (rightB i = false) := by show _ = _; unfold rightB; simp [hb]
      have hb : 37 < i.op := by omega
      go_enter Try.func15, Try.ntmps15
      go_wp2
      go_ret
      exact ⟨ret_bool hR.out.symm, below_alloc _ _⟩
  · have hR : Hid (rightB i = false) := by show _ = _; unfold rightB; simp [ha]
    have ha : i.op < 1 := by omega
    go_enter Try.func15, Try.ntmps15
    go_wp2
    go_ret
    exact ⟨ret_bool hR.out.symm, below_alloc _ _⟩
end Go.Proofs.Ytcmilajlngnibaa
