/- Whether an instruction is right, as Right of package insn tells it: a contract, for every instruction. -/
import Derived.Test.YtjmdgfimmjodjaaGreatDoorV05
namespace Go.Proofs.YtjmdgfimmjodjaaGreatDoor
open Go.RowKit Go.Rel

def numbersB (i : Ins) : Bool := holdsB (regS (hasRd i.op)) i.rd && holdsB (regS (hasRn i.op)) i.rn && holdsB (regS (hasRm i.op)) i.rm && holdsB (regS (hasRa i.op)) i.ra && holdsB (subS i.op) i.sub && holdsB (immS i.op i.sub) i.imm && holdsB (imm2S i.op) i.imm2 && holdsB (amountS i.op) i.amount && holdsB (shiftS i.op) i.shift && holdsB (condS i.op) i.cond
def signsB (i : Ins) : Bool := (flagsR i.op i.sub || !i.flags) && (minusR i.op || !i.minus) && (notR i.op || !i.not) && (linkR i.op || !i.link)
def rightB (i : Ins) : Bool := decide (1 ≤ i.op) && decide (i.op ≤ 37) && (numbersB i && signsB i && rightSysB i.op i.sys && rightFormB i.op i.sub i.amount i.imm i.imm2)

def okS (s : Span) : Prop := s.st ≠ 0 ∨ (s.lo = 0 ∧ s.hi = 0)
theorem okS_up (n : Int) : okS (upToS n) := Or.inl (by simp [upToS])
theorem okS_zero : okS zeroS := Or.inr ⟨rfl, rfl⟩
theorem okS_reg (b : Bool) : okS (regS b) := by cases b <;> simp [okS, regS, h31, h1]
theorem okS_bif (b : Bool) {x y : Span} (hx : okS x) (hy : okS y) : okS (bif b then x else y) := by cases b <;> assumption
theorem okS_sub (op : Int) : okS (subS op) := okS_bif _ (okS_up _) (okS_bif _ (okS_up _) (okS_bif _ (Or.inl (by decide)) (okS_bif _ (okS_up _) okS_zero)))
theorem okS_shift (op : Int) : okS (shiftS op) := okS_bif _ (okS_up _) (okS_bif _ (okS_up _) okS_zero)
theorem okS_cond (op : Int) : okS (condS op) := okS_bif _ (okS_up _) okS_zero
theorem okS_imm2 (op : Int) : okS (imm2S op) := okS_bif _ (okS_up _) okS_zero
theorem okS_amount (op : Int) : okS (amountS op) := okS_bif _ (Or.inl (by decide)) (okS_bif _ (okS_up _) (okS_bif _ (okS_up _) (okS_bif _ (Or.inl (by decide)) (okS_bif _ (Or.inl (by decide)) okS_zero))))
theorem okS_imm (op sub : Int) : okS (immS op sub) := okS_bif _ (okS_up _) (okS_bif _ (okS_up _) (okS_bif _ (okS_up _) (okS_bif _ (okS_bif _ (Or.inl (by decide)) (Or.inl (by decide))) (okS_bif _ (Or.inl (by decide)) (okS_bif _ (Or.inl (by decide)) (okS_bif _ (Or.inl (by decide)) (okS_bif _ (Or.inl (by decide)) (okS_bif _ (Or.inl (by decide)) (okS_bif _ (okS_up _) (okS_bif _ (okS_up _) okS_zero))))))))))

theorem numbers_r (i : Ins) (w : World) :
    Calls Tryz.prog 37 #[.agg (cellsR i (immS i.op i.sub) (amountS i.op) (imm2S i.op)), i.val] w fun e w' => e = .returned (.bool (numbersB i)) ∧ Below w.heap.size w w' :=
  numbers_c 0 (h31 (hasRd i.op)) (h1 (hasRd i.op)) 0 (h31 (hasRn i.op)) (h1 (hasRn i.op)) 0 (h31 (hasRm i.op)) (h1 (hasRm i.op)) 0 (h31 (hasRa i.op)) (h1 (hasRa i.op)) (subS i.op).lo (subS i.op).hi (subS i.op).st (immS i.op i.sub).lo (immS i.op i.sub).hi (immS i.op i.sub).st (imm2S i.op).lo (imm2S i.op).hi (imm2S i.op).st (amountS i.op).lo (amountS i.op).hi (amountS i.op).st (shiftS i.op).lo (shiftS i.op).hi (shiftS i.op).st (condS i.op).lo (condS i.op).hi (condS i.op).st (flagsR i.op i.sub) (minusR i.op) (notR i.op) (linkR i.op) i
    (okS_reg _) (okS_reg _) (okS_reg _) (okS_reg _) (okS_sub _) (okS_imm _ _) (okS_imm2 _) (okS_amount _) (okS_shift _) (okS_cond _) w
theorem signs_r (i : Ins) (w : World) :
    Calls Tryz.prog 38 #[.agg (cellsR i (immS i.op i.sub) (amountS i.op) (imm2S i.op)), i.val] w fun e w' => e = .returned (.bool (signsB i)) ∧ Below w.heap.size w w' :=
  signs_c 0 (h31 (hasRd i.op)) (h1 (hasRd i.op)) 0 (h31 (hasRn i.op)) (h1 (hasRn i.op)) 0 (h31 (hasRm i.op)) (h1 (hasRm i.op)) 0 (h31 (hasRa i.op)) (h1 (hasRa i.op)) (subS i.op).lo (subS i.op).hi (subS i.op).st (immS i.op i.sub).lo (immS i.op i.sub).hi (immS i.op i.sub).st (imm2S i.op).lo (imm2S i.op).hi (imm2S i.op).st (amountS i.op).lo (amountS i.op).hi (amountS i.op).st (shiftS i.op).lo (shiftS i.op).hi (shiftS i.op).st (condS i.op).lo (condS i.op).hi (condS i.op).st (flagsR i.op i.sub) (minusR i.op) (notR i.op) (linkR i.op) i w

/-- A whole row read, by an operation whose guard says yes, or that has none. -/
theorem wpList_load_if {P : Program} {ops : Array Oper} {rest : List Oper} {o : Oper} {a : Act} {w : World} {Q : Exit → Act → World → Prop} (hw : Region.wanted o (yielded ops a.tmps) = true) (ty : TypeId) (x : Operand) (ho : o.op = .load ty x)
    (g : Nat) (hx : a.eval x = .pointer (some ⟨g, 0, none⟩)) (t : TypeId) (cs : Array Value) (fr : Nat × Nat) (d : TypeDesc) (hg : w.heap[g]? = some (.cells cs t fr))
    (hu : P.underlying ty = some d) (hd : (match d with | .struct _ | .array _ _ => true | _ => false) = true) (hi : (P.info? ty).map (·.size) = some cs.size)
    (h : wpList P ops Q rest (a.put o.dst (.agg cs)) w) : wpList P ops Q (o :: rest) a w :=
  BigFrame.wpList_want hw fun _ hK => wp_load_row ty x ho g hx t cs fr d hg hu hd hi (hK _ _ h)

/-- Two blocks of Right's own: the instruction's box, and further on the room. -/
structure Two (i : Ins) (w0 : World) (b : Nat) (R : Array Value) (w : World) : Prop where
  below : Below w0.heap.size w0 w
  box : w.heap[w0.heap.size]? = some (.cells i.cells 23)
  room : w.heap[b]? = some (.cells R 53)

theorem Two.grow {i : Ins} {w0 w w' : World} {b : Nat} {R : Array Value} (h : Two i w0 b R w) (hb : Below w.heap.size w w') : Two i w0 b R w' := by
  have h1 := (Array.getElem?_eq_some_iff.1 h.box).1
  have h2 := (Array.getElem?_eq_some_iff.1 h.room).1
  refine ⟨below_then h.below hb, ?_, ?_⟩
  · rw [hb.block _ h1]; exact h.box
  · rw [hb.block _ h2]; exact h.room

theorem two_start {i : Ins} {w w1 : World} (h : Below (w.alloc (.cells i.cells 23)).heap.size (w.alloc (.cells i.cells 23)) w1) (Z R : Array Value) : Two i w w1.heap.size R ((w1.alloc (.cells Z 53)).setRow w1.heap.size R) := by
  have e1 : (w.alloc (.cells i.cells 23)).heap.size = w.heap.size + 1 := Array.size_push ..
  have hs := h.size
  have hx : Below w.heap.size w (w1.alloc (.cells Z 53)) := below_then (below_alloc _ _) (below_then h (below_alloc _ _))
  refine ⟨hx.trans ⟨rfl, rfl, rfl, by rw [setRow_size]; exact Nat.le_refl _, fun k hk => setRow_other _ _ _ _ (by omega)⟩, ?_, setRow_heap _ _ _ _ _ _ (heap_alloc_new _ _)⟩
  rw [setRow_other _ _ _ _ (by omega), Below.heap_alloc _ _ _ (by omega), h.block _ (by omega), heap_alloc_new]

set_option maxRecDepth 8000 in
set_option maxHeartbeats 8000000 in
theorem right_c (i : Ins) (w : World) :
    Calls Tryz.prog 11 #[i.val] w fun e w' => e = .returned (.bool (rightB i)) ∧ Below w.heap.size w w' := by
  by_cases ha : 1 ≤ i.op
  · by_cases hb : i.op ≤ 37
    · have hR : Hid (rightB i = (numbersB i && signsB i && rightSysB i.op i.sys && rightFormB i.op i.sub i.amount i.imm i.imm2)) := by show _ = _; unfold rightB; simp [ha, hb]
      go_enter Tryz.func11, Tryz.ntmps11
      go_upto_region 3 with fail
      iterate 6 go_step
      refine (roomOf_c i _).mono ?_
      rintro e w1 ⟨rfl, hb1⟩
      dsimp only
      iterate 4 go_step
      refine wpList_store_row rfl 53 _ _ rfl w1.heap.size (cellsR i (immS i.op i.sub) (amountS i.op) (imm2S i.op)) rfl rfl 53 _ (heap_alloc_new _ _) (by kernel_rfl) rfl (cells_one _ _ _ _) ?_
      generalize hw2 : (w1.alloc _).setRow _ _ = w2
      have H2 : Two i w w1.heap.size (cellsR i (immS i.op i.sub) (amountS i.op) (imm2S i.op)) w2 := by rw [← hw2]; exact two_start hb1 _ _
      clear hw2 hb1
      generalize w1.heap.size = b at *
      simp only [Act.put]
      cases hN : numbersB i with
      | false =>
        repeat' (first | with_reducible refine then_exit ?_ | with_reducible refine then_normal ?_ | with_reducible refine inBlock_eq ?_ | with_reducible refine inBlock_ne rfl ?_ | with_reducible refine inBlock_normal ?_ | (refine wpList_load_if rfl 53 _ rfl b rfl 53 _ (0, 0) _ H2.room Tryz.underlying53 rfl (by kernel_rfl) ?_; simp only [Act.put, List.setIfInBounds_toArray, List.set_cons_succ, List.set_cons_zero]) | (refine wpList_load_if rfl 23 _ rfl w.heap.size rfl 23 _ (0, 0) _ H2.box Tryz.underlying23 rfl (by kernel_rfl) ?_; simp only [Act.put, List.setIfInBounds_toArray, List.set_cons_succ, List.set_cons_zero]) | (go_at_call 37; refine (numbers_r i _).mono ?_; rw [hN]; rintro e w3 ⟨rfl, hb3⟩; replace H2 := H2.grow hb3; clear hb3; dsimp only) | (go_at_call 38; refine (signs_r i _).mono ?_; rintro e w3 ⟨rfl, hb3⟩; replace H2 := H2.grow hb3; clear hb3; dsimp only) | (go_at_call 39; refine (rightSys_c i _).mono ?_; rintro e w3 ⟨rfl, hb3⟩; replace H2 := H2.grow hb3; clear hb3; dsimp only) | (go_at_call 40; refine (rightForm_c i _).mono ?_; rintro e w3 ⟨rfl, hb3⟩; replace H2 := H2.grow hb3; clear hb3; dsimp only) | go_step)
        go_ret
        exact ⟨ret_bool (by rw [hR.out, hN]; rfl), H2.below⟩
      | true =>
        cases hS : signsB i with
        | false =>
          repeat' (first | with_reducible refine then_exit ?_ | with_reducible refine then_normal ?_ | with_reducible refine inBlock_eq ?_ | with_reducible refine inBlock_ne rfl ?_ | with_reducible refine inBlock_normal ?_ | (refine wpList_load_if rfl 53 _ rfl b rfl 53 _ (0, 0) _ H2.room Tryz.underlying53 rfl (by kernel_rfl) ?_; simp only [Act.put, List.setIfInBounds_toArray, List.set_cons_succ, List.set_cons_zero]) | (refine wpList_load_if rfl 23 _ rfl w.heap.size rfl 23 _ (0, 0) _ H2.box Tryz.underlying23 rfl (by kernel_rfl) ?_; simp only [Act.put, List.setIfInBounds_toArray, List.set_cons_succ, List.set_cons_zero]) | (go_at_call 37; refine (numbers_r i _).mono ?_; rw [hN]; rintro e w3 ⟨rfl, hb3⟩; replace H2 := H2.grow hb3; clear hb3; dsimp only) | (go_at_call 38; refine (signs_r i _).mono ?_; rw [hS]; rintro e w3 ⟨rfl, hb3⟩; replace H2 := H2.grow hb3; clear hb3; dsimp only) | (go_at_call 39; refine (rightSys_c i _).mono ?_; rintro e w3 ⟨rfl, hb3⟩; replace H2 := H2.grow hb3; clear hb3; dsimp only) | (go_at_call 40; refine (rightForm_c i _).mono ?_; rintro e w3 ⟨rfl, hb3⟩; replace H2 := H2.grow hb3; clear hb3; dsimp only) | go_step)
          go_ret
          exact ⟨ret_bool (by rw [hR.out, hN, hS]; rfl), H2.below⟩
        | true =>
          cases hY : rightSysB i.op i.sys with
          | false =>
            repeat' (first | with_reducible refine then_exit ?_ | with_reducible refine then_normal ?_ | with_reducible refine inBlock_eq ?_ | with_reducible refine inBlock_ne rfl ?_ | with_reducible refine inBlock_normal ?_ | (refine wpList_load_if rfl 53 _ rfl b rfl 53 _ (0, 0) _ H2.room Tryz.underlying53 rfl (by kernel_rfl) ?_; simp only [Act.put, List.setIfInBounds_toArray, List.set_cons_succ, List.set_cons_zero]) | (refine wpList_load_if rfl 23 _ rfl w.heap.size rfl 23 _ (0, 0) _ H2.box Tryz.underlying23 rfl (by kernel_rfl) ?_; simp only [Act.put, List.setIfInBounds_toArray, List.set_cons_succ, List.set_cons_zero]) | (go_at_call 37; refine (numbers_r i _).mono ?_; rw [hN]; rintro e w3 ⟨rfl, hb3⟩; replace H2 := H2.grow hb3; clear hb3; dsimp only) | (go_at_call 38; refine (signs_r i _).mono ?_; rw [hS]; rintro e w3 ⟨rfl, hb3⟩; replace H2 := H2.grow hb3; clear hb3; dsimp only) | (go_at_call 39; refine (rightSys_c i _).mono ?_; rw [hY]; rintro e w3 ⟨rfl, hb3⟩; replace H2 := H2.grow hb3; clear hb3; dsimp only) | (go_at_call 40; refine (rightForm_c i _).mono ?_; rintro e w3 ⟨rfl, hb3⟩; replace H2 := H2.grow hb3; clear hb3; dsimp only) | go_step)
            go_ret
            exact ⟨ret_bool (by rw [hR.out, hN, hS, hY]; rfl), H2.below⟩
          | true =>
            repeat' (first | with_reducible refine then_exit ?_ | with_reducible refine then_normal ?_ | with_reducible refine inBlock_eq ?_ | with_reducible refine inBlock_ne rfl ?_ | with_reducible refine inBlock_normal ?_ | (refine wpList_load_if rfl 53 _ rfl b rfl 53 _ (0, 0) _ H2.room Tryz.underlying53 rfl (by kernel_rfl) ?_; simp only [Act.put, List.setIfInBounds_toArray, List.set_cons_succ, List.set_cons_zero]) | (refine wpList_load_if rfl 23 _ rfl w.heap.size rfl 23 _ (0, 0) _ H2.box Tryz.underlying23 rfl (by kernel_rfl) ?_; simp only [Act.put, List.setIfInBounds_toArray, List.set_cons_succ, List.set_cons_zero]) | (go_at_call 37; refine (numbers_r i _).mono ?_; rw [hN]; rintro e w3 ⟨rfl, hb3⟩; replace H2 := H2.grow hb3; clear hb3; dsimp only) | (go_at_call 38; refine (signs_r i _).mono ?_; rw [hS]; rintro e w3 ⟨rfl, hb3⟩; replace H2 := H2.grow hb3; clear hb3; dsimp only) | (go_at_call 39; refine (rightSys_c i _).mono ?_; rw [hY]; rintro e w3 ⟨rfl, hb3⟩; replace H2 := H2.grow hb3; clear hb3; dsimp only) | (go_at_call 40; refine (rightForm_c i _).mono ?_; rintro e w3 ⟨rfl, hb3⟩; replace H2 := H2.grow hb3; clear hb3; dsimp only) | go_step)
            go_ret
            exact ⟨ret_bool (by rw [hR.out, hN, hS, hY]; rfl), H2.below⟩
    · have hR : Hid (rightB i = false) := by show _ = _; unfold rightB; simp [hb]
      have hb : 37 < i.op := by omega
      go_enter Tryz.func11, Tryz.ntmps11
      go_wp2
      go_ret
      exact ⟨ret_bool hR.out.symm, below_alloc _ _⟩
  · have hR : Hid (rightB i = false) := by show _ = _; unfold rightB; simp [ha]
    have ha : i.op < 1 := by omega
    go_enter Tryz.func11, Tryz.ntmps11
    go_wp2
    go_ret
    exact ⟨ret_bool hR.out.symm, below_alloc _ _⟩
end Go.Proofs.YtjmdgfimmjodjaaGreatDoor
/- The sets of registers that package insn keeps by bits: what its small functions give back: contracts. -/
namespace Go.Proofs.YtjmdgfimmjodjaaGreatDoor
open Go.RowKit Go.Rel

def zeroF (n : Int) : Int := if n = 31 then 0 else 2 ^ n.toNat
def stackF (n : Int) : Int := 2 ^ n.toNat
def accB (op : Int) : Bool := decide (17 ≤ op) && decide (op ≤ 24)
def spD (i : Ins) : Bool := (i.op == 1 || i.op == 4) && !i.flags
def spN (i : Ins) : Bool := i.op == 1 || accB i.op

theorem zero_fin : ∀ k : Fin 32, bits .andNot .u32 (IntKind.u32.wrap (2 ^ (k.val : Int).toNat)) 2147483648 = zeroF (k.val : Int) := by decide +kernel
theorem stack_fin : ∀ k : Fin 32, IntKind.u32.wrap (2 ^ (k.val : Int).toNat) = stackF (k.val : Int) := by decide +kernel
theorem zero_walk {n : Int} (h0 : 0 ≤ n) (h1 : n ≤ 31) : bits .andNot .u32 (IntKind.u32.wrap (2 ^ n.toNat)) 2147483648 = zeroF n := by
  have := zero_fin ⟨n.toNat, by omega⟩
  rwa [show ((⟨n.toNat, by omega⟩ : Fin 32).val : Int) = n by simp; omega] at this
theorem stack_walk {n : Int} (h0 : 0 ≤ n) (h1 : n ≤ 31) : IntKind.u32.wrap (2 ^ n.toNat) = stackF n := by
  have := stack_fin ⟨n.toNat, by omega⟩
  rwa [show ((⟨n.toNat, by omega⟩ : Fin 32).val : Int) = n by simp; omega] at this

set_option maxHeartbeats 400000 in
theorem zeroOr_c (n : Int) (h0 : 0 ≤ n) (h1 : n ≤ 31) (w : World) :
    Calls Tryz.prog 75 #[vI n] w fun e w' => e = .returned (.int .u32 (zeroF n)) ∧ w' = w := by
  have hZ : Hid (bits .andNot .u32 (IntKind.u32.wrap (2 ^ n.toNat)) 2147483648 = zeroF n) := zero_walk h0 h1
  go_enter Tryz.func75, Tryz.ntmps75
  go_wp2
  go_ret
  exact ⟨ret_int hZ.out, rfl⟩

set_option maxHeartbeats 400000 in
theorem stackOr_c (n : Int) (h0 : 0 ≤ n) (h1 : n ≤ 31) (w : World) :
    Calls Tryz.prog 85 #[vI n] w fun e w' => e = .returned (.int .u32 (stackF n)) ∧ w' = w := by
  have hZ : Hid (IntKind.u32.wrap (2 ^ n.toNat) = stackF n) := stack_walk h0 h1
  go_enter Tryz.func85, Tryz.ntmps85
  go_wp2
  go_ret
  exact ⟨ret_int hZ.out, rfl⟩

set_option maxHeartbeats 400000 in
theorem accesses_c (op : Int) (w : World) : Calls Tryz.prog 79 #[vI op] w fun e w' => e = .returned (.bool (accB op)) ∧ w' = w := by
  by_cases h1 : 17 ≤ op
  · by_cases h2 : op ≤ 24
    · have hR : Hid (accB op = true) := by show _ = _; simp [accB, h1, h2]
      go_enter Tryz.func79, Tryz.ntmps79
      go_wp2
      go_ret
      exact ⟨ret_bool (by rw [hR.out]), rfl⟩
    · have hR : Hid (accB op = false) := by show _ = _; simp [accB, h2]
      have h2 : 24 < op := by omega
      go_enter Tryz.func79, Tryz.ntmps79
      go_wp2
      go_ret
      exact ⟨ret_bool (by rw [hR.out]), rfl⟩
  · have hR : Hid (accB op = false) := by show _ = _; simp [accB, h1]
    have h1 : op < 17 := by omega
    go_enter Tryz.func79, Tryz.ntmps79
    go_wp2
    go_ret
    exact ⟨ret_bool (by rw [hR.out]), rfl⟩

set_option maxHeartbeats 400000 in
theorem stackRd_c (i : Ins) (w : World) : Calls Tryz.prog 52 #[i.val] w fun e w' => e = .returned (.bool (spD i)) ∧ w' = w.alloc (.cells i.cells 23) := by
  obtain ⟨op, sub, rd, rn, rm, ra, imm, imm2, amount, shift, cond, sys, flags, minus, not, link⟩ := i
  cases h1 : (op == 1) <;> cases h4 : (op == 4) <;> cases flags
  all_goals
    go_enter Tryz.func52, Tryz.ntmps52
    go_wp2
    go_ret
    exact ⟨ret_bool (by simp only [spD, h1, h4]; rfl), rfl⟩

set_option maxHeartbeats 400000 in
theorem stackRn_c (i : Ins) (w : World) : Calls Tryz.prog 53 #[i.val] w fun e w' => e = .returned (.bool (spN i)) ∧ w' = w.alloc (.cells i.cells 23) := by
  obtain ⟨op, sub, rd, rn, rm, ra, imm, imm2, amount, shift, cond, sys, flags, minus, not, link⟩ := i
  cases h1 : (op == 1)
  all_goals
    go_enter Tryz.func53, Tryz.ntmps53
    go_wp2_with (go_at_call 79; refine (accesses_c _ _).mono ?_; rintro e w' ⟨rfl, rfl⟩)
    go_ret
    exact ⟨ret_bool (by simp only [spN, h1]; rfl), rfl⟩
end Go.Proofs.YtjmdgfimmjodjaaGreatDoor
/- Which registers an instruction reads, reckons its address of and writes, as sets by bits: contracts, for every instruction whose registers are 0 to 31. -/
namespace Go.Proofs.YtjmdgfimmjodjaaGreatDoor
open Go.RowKit Go.Rel

def setDV (i : Ins) : Int := bif spD i then stackF i.rd else zeroF i.rd
def setNV (i : Ins) : Int := bif spN i then stackF i.rn else zeroF i.rn
abbrev orS (a b : Int) : Int := bits .or .u32 a b
def readsV (i : Ins) : Int :=
  bif i.op == 8 then orS (orS (orS 0 (zeroF i.ra)) (zeroF i.rm)) (setNV i)
  else bif i.op == 2 || i.op == 3 || i.op == 7 || i.op == 9 || i.op == 10 || i.op == 19 then orS (orS 0 (zeroF i.rm)) (setNV i)
  else bif i.op == 1 || i.op == 4 || i.op == 6 || i.op == 16 || i.op == 17 || i.op == 21 || i.op == 23 then orS 0 (setNV i)
  else bif i.op == 20 then orS (orS (orS 0 (zeroF i.rm)) (setNV i)) (zeroF i.rd)
  else bif i.op == 18 || i.op == 22 || i.op == 24 then orS (orS 0 (setNV i)) (zeroF i.rd)
  else bif i.op == 14 || i.op == 15 || i.op == 28 || i.op == 30 || i.op == 32 then orS 0 (zeroF i.rd)
  else bif i.op == 5 then (bif i.sub == 3 then orS 0 (zeroF i.rd) else 0) else 0
def addressV (i : Ins) : Int :=
  bif i.op == 19 || i.op == 20 then orS (orS 0 (zeroF i.rm)) (setNV i)
  else bif i.op == 17 || i.op == 18 || i.op == 21 || i.op == 22 || i.op == 23 || i.op == 24 then orS 0 (setNV i)
  else bif i.op == 28 || i.op == 30 then orS 0 (zeroF i.rd) else 0
def writesV (i : Ins) : Int :=
  bif i.op == 17 || i.op == 19 || i.op == 21 || i.op == 23 || i.op == 31 then setDV i
  else bif i.op == 24 then zeroF i.rm
  else bif i.op == 12 then (bif i.link then zeroF 30 else 0)
  else bif i.op == 16 then (bif i.sub == 1 then zeroF 30 else 0)
  else bif decide (i.op ≤ 11) then setDV i else 0

structure InR (i : Ins) : Prop where
  d0 : 0 ≤ i.rd
  d1 : i.rd ≤ 31
  n0 : 0 ≤ i.rn
  n1 : i.rn ≤ 31
  m0 : 0 ≤ i.rm
  m1 : i.rm ≤ 31
  a0 : 0 ≤ i.ra
  a1 : i.ra ≤ 31

set_option maxHeartbeats 400000 in
theorem setRd_c (i : Ins) (hr : InR i) (w : World) : Calls Tryz.prog 77 #[i.val] w fun e w' => e = .returned (.int .u32 (setDV i)) ∧ w' = (w.alloc (.cells i.cells 23)).alloc (.cells i.cells 23) := by
  cases hS : spD i
  all_goals
    go_enter Tryz.func77, Tryz.ntmps77
    go_wp2_with (first | (go_at_call 52; refine (stackRd_c i _).mono ?_; rw [hS]; rintro e w' ⟨rfl, rfl⟩) | (go_at_call 85; refine (stackOr_c _ hr.d0 hr.d1 _).mono ?_; rintro e w' ⟨rfl, rfl⟩) | (go_at_call 75; refine (zeroOr_c _ hr.d0 hr.d1 _).mono ?_; rintro e w' ⟨rfl, rfl⟩))
    go_ret
    exact ⟨ret_int (by simp only [setDV, hS]; rfl), rfl⟩

set_option maxHeartbeats 400000 in
theorem setRn_c (i : Ins) (hr : InR i) (w : World) : Calls Tryz.prog 76 #[i.val] w fun e w' => e = .returned (.int .u32 (setNV i)) ∧ w' = (w.alloc (.cells i.cells 23)).alloc (.cells i.cells 23) := by
  cases hS : spN i
  all_goals
    go_enter Tryz.func76, Tryz.ntmps76
    go_wp2_with (first | (go_at_call 53; refine (stackRn_c i _).mono ?_; rw [hS]; rintro e w' ⟨rfl, rfl⟩) | (go_at_call 85; refine (stackOr_c _ hr.n0 hr.n1 _).mono ?_; rintro e w' ⟨rfl, rfl⟩) | (go_at_call 75; refine (zeroOr_c _ hr.n0 hr.n1 _).mono ?_; rintro e w' ⟨rfl, rfl⟩))
    go_ret
    exact ⟨ret_int (by simp only [setNV, hS]; rfl), rfl⟩

set_option maxRecDepth 4000 in
set_option maxHeartbeats 8000000 in
theorem address_c (i : Ins) (hr : InR i) (w : World) : Calls Tryz.prog 44 #[i.val] w fun e w' => e = .returned (.int .u32 (addressV i)) ∧ Below w.heap.size w w' := by
  go_enter Tryz.func44, Tryz.ntmps44
  repeat' (first | with_reducible refine then_exit ?_ | with_reducible refine then_normal ?_ | with_reducible refine inBlock_eq ?_ | with_reducible refine inBlock_ne rfl ?_ | with_reducible refine inBlock_normal ?_ | (go_at_call 76; refine (setRn_c i hr _).mono ?_; rintro e w' ⟨rfl, rfl⟩; dsimp only) | (go_at_call 75; refine (zeroOr_c _ (by first | exact hr.m0 | exact hr.d0 | exact hr.a0 | decide) (by first | exact hr.m1 | exact hr.d1 | exact hr.a1 | decide) _).mono ?_; rintro e w' ⟨rfl, rfl⟩; dsimp only) | go_step)
  all_goals (go_ret; refine ⟨ret_int ?_, by repeat (first | exact Below.refl _ _ | apply below_more)⟩; simp only [addressV, cond_true, cond_false, Bool.or_true, Bool.true_or, Bool.or_false, *])

set_option maxRecDepth 4000 in
set_option maxHeartbeats 8000000 in
theorem reads_c (i : Ins) (hr : InR i) (w : World) : Calls Tryz.prog 42 #[i.val] w fun e w' => e = .returned (.int .u32 (readsV i)) ∧ Below w.heap.size w w' := by
  go_enter Tryz.func42, Tryz.ntmps42
  repeat' (first | with_reducible refine then_exit ?_ | with_reducible refine then_normal ?_ | with_reducible refine inBlock_eq ?_ | with_reducible refine inBlock_ne rfl ?_ | with_reducible refine inBlock_normal ?_ | (go_at_call 76; refine (setRn_c i hr _).mono ?_; rintro e w' ⟨rfl, rfl⟩; dsimp only) | (go_at_call 75; refine (zeroOr_c _ (by first | exact hr.m0 | exact hr.d0 | exact hr.a0 | decide) (by first | exact hr.m1 | exact hr.d1 | exact hr.a1 | decide) _).mono ?_; rintro e w' ⟨rfl, rfl⟩; dsimp only) | go_step)
  all_goals (go_ret; refine ⟨ret_int ?_, by repeat (first | exact Below.refl _ _ | apply below_more)⟩; simp only [readsV, cond_true, cond_false, Bool.or_true, Bool.true_or, Bool.or_false, *])

end Go.Proofs.YtjmdgfimmjodjaaGreatDoor
/- What is listed of a set of registers: each of its bits, rising, once: a contract. -/
namespace Go.Proofs.YtjmdgfimmjodjaaGreatDoor
open Go.RowKit Go.Rel

def listL (s : Nat) (k : Nat) : List Nat := (List.range k).filter fun j => s.testBit j
theorem listL_succ (s k : Nat) : listL s (k + 1) = if s.testBit k then listL s k ++ [k] else listL s k := by
  unfold listL
  rw [List.range_succ, List.filter_append]
  cases h : s.testBit k <;> simp [h]
def listV (s k : Nat) : List Value := (listL s k).map fun (j : Nat) => vI (j : Int)
theorem listV_yes {s k : Nat} (h : s.testBit k = true) : listV s (k + 1) = listV s k ++ [vI (k : Int)] := by unfold listV; rw [listL_succ, if_pos h, List.map_append]; rfl
theorem listV_no {s k : Nat} (h : s.testBit k = false) : listV s (k + 1) = listV s k := by unfold listV; rw [listL_succ, if_neg (by simp [h])]

theorem listL_le (s k : Nat) : (listL s k).length ≤ k := by
  have := List.length_filter_le (fun j => s.testBit j) (List.range k)
  simpa [listL] using this
theorem bit32 (s k : Nat) (hs : s < 4294967296) : (bits .and .u32 ((s : Int) / 2 ^ k) 1 == 1) = s.testBit k := by
  have h1 : ((s : Int) / 2 ^ k) = ((s / 2 ^ k : Nat) : Int) := by simp
  have h2 : s / 2 ^ k < 4294967296 := Nat.lt_of_le_of_lt (Nat.div_le_self _ _) hs
  rw [h1, show (1 : Int) = ((1 : Nat) : Int) from rfl, and32 _ _ h2 (by decide), Nat.testBit_eq_decide_div_mod_eq, and_one]
  by_cases h : s / 2 ^ k % 2 = 1
  · simp [h]
  · have : s / 2 ^ k % 2 = 0 := by omega
    simp [this]

theorem int_info : ∃ i0, Tryz.prog.info? 3 = some i0 ∧ i0.zero = some (.int .i64 0) ∧ i0.size = 1 ∧ i0.bytes = 8 := by
  have h : (Tryz.prog.info? 3).map (fun i => (i.zero, i.size, i.bytes)) = some (some (.int .i64 0), 1, 8) := by kernel_rfl
  cases hq : Tryz.prog.info? 3 with
  | none => rw [hq] at h; cases h
  | some i =>
    rw [hq] at h
    simp only [Option.map_some, Option.some.injEq, Prod.mk.injEq] at h
    exact ⟨i, rfl, h.1, h.2.1, h.2.2⟩

set_option maxRecDepth 4000 in
set_option maxHeartbeats 2000000 in
theorem list_c (s : Nat) (hs : s < 4294967296) (w : World) :
    Calls Tryz.prog 43 #[.int .u32 (s : Int)] w fun e w' => ∃ v, e = .returned v ∧ w'.ownsRow w.heap.size 3 1 v (listL s 32).length (listV s 32) ∧ Below w.heap.size w w' := by
  have hB : Hid (∀ k : Nat, (bits .and .u32 ((s : Int) / 2 ^ k) 1 == 1) = s.testBit k) := fun k => bit32 s k hs
  clear hs
  obtain ⟨i0, hi, hz0, hz1, hz2⟩ : ∃ i0, Tryz.prog.info? 3 = some i0 ∧ i0.zero = some (.int .i64 0) ∧ i0.size = 1 ∧ i0.bytes = 8 := int_info
  go_enter Tryz.func43, Tryz.ntmps43
  go_wp2
  go_loopw [3, 5] (fun v i wr => ∃ k : Nat, k ≤ 32 ∧ i = .int .i64 k ∧ wr.ownsRow w.heap.size 3 1 v (listL s k).length (listV s k) ∧ Below w.heap.size w wr) (fun _ i _ => 32 - (intOf i).toNat)
  case atStart => exact ⟨0, Nat.zero_le _, rfl, World.ownsRow_nil _ _ _ _, Below.refl _ _⟩
  case round =>
    obtain ⟨k, hk, rfl, hown, hnx⟩ := hrel
    by_cases hlt : (k : Int) < 32
    · have hb := hB.out k
      have hle := listL_le s k
      cases ht : s.testBit k
      · rw [ht] at hb
        have HT : Hid (s.testBit k = false) := ht
        clear ht
        go_wp2
        refine ⟨⟨k + 1, by omega, by go_num, ?_, hnx⟩, by simp [intOf]; omega⟩
        rw [listV_no HT.out, listL_succ, if_neg (by rw [HT.out]; decide)]
        exact hown
      · rw [ht] at hb
        have HT : Hid (s.testBit k = true) := ht
        clear ht
        go_wp2_with (at_builtin; refine wpList_append_own _ rfl _ _ 33 rfl w.heap.size 3 i0 (.int .i64 0) 1 8 Tryz.underlying33 hi hz0 hz1 hz2 rfl (by decide) _ _ _ rfl (hown.alloc _) ⟨wr.heap.size, 0, none⟩ 1 1 [.int .i64 k] rfl rfl ?c1 ?c2 ?c3 ?c4 ?c5 ?_)
        case c1 =>
          intro j u hj
          match j, hj with
          | 0, hj => simp at hj; subst hj; simp [Addr.add]
        case c2 => intro u hu; simp at hu; subst hu; rfl
        case c3 => unfold maxLen; omega
        case c4 => omega
        case c5 => have := hnx.size; simp; omega
        · intro v' w1 hown' hgrow _
          have HG : Below w.heap.size w w1 := (hnx.alloc hnx.size _).grown hgrow (Nat.le_trans hnx.size (by simp)) (fun b hb => (World.ownsRow.lt hown b hb).1)
          clear hgrow
          go_wp2
          refine ⟨⟨k + 1, by omega, by go_num, ?_, HG⟩, by simp [intOf]; omega⟩
          rw [listV_yes HT.out, listL_succ, if_pos HT.out, List.length_append]
          exact hown'
    · obtain rfl : k = 32 := by omega
      go_wp2
      go_ret
      exact ⟨_, rfl, hown, hnx⟩
end Go.Proofs.YtjmdgfimmjodjaaGreatDoor
