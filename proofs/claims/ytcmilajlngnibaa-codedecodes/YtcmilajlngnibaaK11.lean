/- What a span holds, and whether the numbers and signs of an instruction are in its room: contracts. -/
import Derived.Test.YtcmilajlngnibaaK07
import Derived.Test.YtcmilajlngnibaaK10
namespace Go.Proofs.Ytcmilajlngnibaa
open Go.RowKit Go.Rel


set_option maxHeartbeats 400000 in
theorem holds_c (lo hi st n : Int) (hs : Hid (st ≠ 0 ∨ (lo = 0 ∧ hi = 0))) (w : World) :
    Calls Try.prog 78 #[.agg #[vI lo, vI hi, vI st], vI n] w fun e w' => e = .returned (.bool (holdsB ⟨lo, hi, st⟩ n)) ∧ w' = w.alloc (.cells #[vI lo, vI hi, vI st] 54) := by
  by_cases h1 : lo ≤ n
  · by_cases h2 : n ≤ hi
    · by_cases h3 : (n == 0) = true
      · have hR : Hid (holdsB ⟨lo, hi, st⟩ n = true) := by show _ = _; simp [holdsB, h1, h2, h3]
        go_enter Try.func78, Try.ntmps78
        go_wp2
        go_ret
        exact ⟨ret_bool hR.out.symm, rfl⟩
      · have h3 : (n == 0) = false := by simpa using h3
        have h4 : ¬ st = 0 := by
          rcases hs.out with h | ⟨rfl, rfl⟩
          · exact h
          · have : n ≠ 0 := by simpa using h3
            omega
        have hR : Hid (holdsB ⟨lo, hi, st⟩ n = (n.tmod st == 0)) := by show _ = _; simp only [holdsB, h1, h2, h3]; simp
        go_enter Try.func78, Try.ntmps78
        go_wp2
        go_ret
        exact ⟨ret_bool hR.out.symm, rfl⟩
    · have hR : Hid (holdsB ⟨lo, hi, st⟩ n = false) := by show _ = _; simp [holdsB, h2]
      have h2 : hi < n := by omega
      go_enter Try.func78, Try.ntmps78
      go_wp2
      go_ret
      exact ⟨ret_bool hR.out.symm, rfl⟩
  · have hR : Hid (holdsB ⟨lo, hi, st⟩ n = false) := by show _ = _; simp [holdsB, h1]
    have h1 : n < lo := by omega
    go_enter Try.func78, Try.ntmps78
    go_wp2
    go_ret
    exact ⟨ret_bool hR.out.symm, rfl⟩

set_option maxRecDepth 4000 in
set_option maxHeartbeats 4000000 in
theorem numbers_c (a0 a1 a2 b0 b1 b2 c0 c1 c2 d0 d1 d2 e0 e1 e2 f0 f1 f2 g0 g1 g2 h0 h1' h2 k0 k1 k2 l0 l1 l2 : Int) (q1 q2 q3 q4 : Bool) (i : Ins)
    (ha : Hid (a2 ≠ 0 ∨ (a0 = 0 ∧ a1 = 0))) (hb : Hid (b2 ≠ 0 ∨ (b0 = 0 ∧ b1 = 0))) (hc : Hid (c2 ≠ 0 ∨ (c0 = 0 ∧ c1 = 0))) (hd : Hid (d2 ≠ 0 ∨ (d0 = 0 ∧ d1 = 0))) (he : Hid (e2 ≠ 0 ∨ (e0 = 0 ∧ e1 = 0))) (hf : Hid (f2 ≠ 0 ∨ (f0 = 0 ∧ f1 = 0))) (hg : Hid (g2 ≠ 0 ∨ (g0 = 0 ∧ g1 = 0))) (hh : Hid (h2 ≠ 0 ∨ (h0 = 0 ∧ h1' = 0))) (hk : Hid (k2 ≠ 0 ∨ (k0 = 0 ∧ k1 = 0))) (hl : Hid (l2 ≠ 0 ∨ (l0 = 0 ∧ l1 = 0))) (w : World) :
    Calls Try.prog 53 #[.agg #[vI a0, vI a1, vI a2, vI b0, vI b1, vI b2, vI c0, vI c1, vI c2, vI d0, vI d1, vI d2, vI e0, vI e1, vI e2, vI f0, vI f1, vI f2, vI g0, vI g1, vI g2, vI h0, vI h1', vI h2, vI k0, vI k1, vI k2, vI l0, vI l1, vI l2, .bool q1, .bool q2, .bool q3, .bool q4], i.val] w fun e w' =>
      e = .returned (.bool (holdsB ⟨a0, a1, a2⟩ i.rd && holdsB ⟨b0, b1, b2⟩ i.rn && holdsB ⟨c0, c1, c2⟩ i.rm && holdsB ⟨d0, d1, d2⟩ i.ra && holdsB ⟨e0, e1, e2⟩ i.sub && holdsB ⟨f0, f1, f2⟩ i.imm && holdsB ⟨g0, g1, g2⟩ i.imm2 && holdsB ⟨h0, h1', h2⟩ i.amount && holdsB ⟨k0, k1, k2⟩ i.shift && holdsB ⟨l0, l1, l2⟩ i.cond)) ∧ Below w.heap.size w w' := by
  obtain ⟨op, sub, rd, rn, rm, ra, imm, imm2, amount, shift, cond, sys, flags, minus, not, link⟩ := i
  go_enter Try.func53, Try.ntmps53
  go_wp2_with (go_at_call 78; refine (holds_c _ _ _ _ (by assumption) _).mono ?_; rintro e w' ⟨rfl, rfl⟩)
  all_goals (go_ret; refine ⟨ret_bool ?_, by repeat (first | exact Below.refl _ _ | apply below_more)⟩; simp [*])

set_option maxRecDepth 4000 in
set_option maxHeartbeats 4000000 in
theorem signs_c (a0 a1 a2 b0 b1 b2 c0 c1 c2 d0 d1 d2 e0 e1 e2 f0 f1 f2 g0 g1 g2 h0 h1' h2 k0 k1 k2 l0 l1 l2 : Int) (q1 q2 q3 q4 : Bool) (i : Ins) (w : World) :
    Calls Try.prog 54 #[.agg #[vI a0, vI a1, vI a2, vI b0, vI b1, vI b2, vI c0, vI c1, vI c2, vI d0, vI d1, vI d2, vI e0, vI e1, vI e2, vI f0, vI f1, vI f2, vI g0, vI g1, vI g2, vI h0, vI h1', vI h2, vI k0, vI k1, vI k2, vI l0, vI l1, vI l2, .bool q1, .bool q2, .bool q3, .bool q4], i.val] w fun e w' =>
      e = .returned (.bool ((q1 || !i.flags) && (q2 || !i.minus) && (q3 || !i.not) && (q4 || !i.link))) ∧ Below w.heap.size w w' := by
  obtain ⟨op, sub, rd, rn, rm, ra, imm, imm2, amount, shift, cond, sys, flags, minus, not, link⟩ := i
  go_enter Try.func54, Try.ntmps54
  go_wp2
  all_goals (go_ret; refine ⟨ret_bool ?_, by repeat (first | exact Below.refl _ _ | apply below_more)⟩; simp [*])
end Go.Proofs.Ytcmilajlngnibaa
/- Whether the system register and the form of an instruction are right: contracts. -/
namespace Go.Proofs.Ytcmilajlngnibaa
open Go.RowKit Go.Rel

def sysB (n : Int) : Bool := n == 17920 || n == 16897 || n == 16896 || n == 17040 || n == 17152 || n == 16904 || n == 16389 || n == 16914 || n == 23057 || n == 23056 || n == 24194 || n == 18016 || n == 18017 || n == 16944 || n == 18013 || n == 24322 || n == 24345 || n == 24346
def rightSysB (op sys : Int) : Bool := bif op != 31 && op != 32 then sys == 0 else sysB sys
def rightFormB (op sub amount imm imm2 : Int) : Bool := bif op == 4 then maskE amount imm imm2 == 0 else bif op == 5 then sub != 1 else true


set_option maxHeartbeats 4000000 in
theorem rightSys_c (i : Ins) (w : World) :
    Calls Try.prog 55 #[i.val] w fun e w' => e = .returned (.bool (rightSysB i.op i.sys)) ∧ Below w.heap.size w w' := by
  obtain ⟨op, sub, rd, rn, rm, ra, imm, imm2, amount, shift, cond, sys, flags, minus, not, link⟩ := i
  by_cases h31 : op = 31
  · subst h31
    have hR : Hid (rightSysB 31 sys = sysB sys) := rfl
    go_enter Try.func55, Try.ntmps55
    go_wp2
    all_goals (go_ret; refine ⟨ret_bool ?_, by repeat (first | exact Below.refl _ _ | apply below_more)⟩; rw [hR.out]; simp only [sysB, Bool.or_true, Bool.true_or, Bool.or_false, *])
  · by_cases h32 : op = 32
    · subst h32
      have hR : Hid (rightSysB 32 sys = sysB sys) := rfl
      go_enter Try.func55, Try.ntmps55
      go_wp2
      all_goals (go_ret; refine ⟨ret_bool ?_, by repeat (first | exact Below.refl _ _ | apply below_more)⟩; rw [hR.out]; simp only [sysB, Bool.or_true, Bool.true_or, Bool.or_false, *])
    · have g1 : (op != 31) = true := by simpa using h31
      have g2 : (op != 32) = true := by simpa using h32
      have hR : Hid (rightSysB op sys = (sys == 0)) := by show _ = _; unfold rightSysB; rw [g1, g2]; rfl
      go_enter Try.func55, Try.ntmps55
      go_wp2
      go_ret
      exact ⟨ret_bool hR.out.symm, below_alloc _ _⟩

set_option maxHeartbeats 4000000 in
theorem maskOf_c (i : Ins) (w : World) :
    Calls Try.prog 79 #[i.val] w fun e w' => e = .returned (.tuple #[.int .u64 (maskV i.amount i.imm i.imm2), .int .i64 (maskE i.amount i.imm i.imm2)]) ∧ Below w.heap.size w w' := by
  obtain ⟨op, sub, rd, rn, rm, ra, imm, imm2, amount, shift, cond, sys, flags, minus, not, link⟩ := i
  go_enter Try.func79, Try.ntmps79
  go_wp2_with (go_at_call 88; refine (mask_c _ _ _ _).mono ?_; rintro e w' ⟨rfl, m, rfl⟩)
  go_ret2
  exact ⟨rfl, below_draws (below_alloc _ _)⟩

set_option maxHeartbeats 4000000 in
theorem rightForm_c (i : Ins) (w : World) :
    Calls Try.prog 56 #[i.val] w fun e w' => e = .returned (.bool (rightFormB i.op i.sub i.amount i.imm i.imm2)) ∧ Below w.heap.size w w' := by
  obtain ⟨op, sub, rd, rn, rm, ra, imm, imm2, amount, shift, cond, sys, flags, minus, not, link⟩ := i
  go_enter Try.func56, Try.ntmps56
  go_wp2_with (go_at_call 79; refine (maskOf_c ⟨_, _, _, _, _, _, _, _, _, _, _, _, _, _, _, _⟩ _).mono ?_; rintro e w' ⟨rfl, hb⟩)
  · go_ret
    refine ⟨ret_bool ?_, below_then (below_alloc _ _) hb⟩
    simp only [rightFormB, cond_true, *]
  · go_ret
    refine ⟨ret_bool ?_, below_alloc _ _⟩
    simp only [rightFormB, cond_true, cond_false, *]
  · go_ret
    refine ⟨ret_bool ?_, below_alloc _ _⟩
    simp only [rightFormB, cond_false, *]
end Go.Proofs.Ytcmilajlngnibaa
/- Whether an instruction is right, as Right of package insn tells it: a contract, for every instruction. -/
namespace Go.Proofs.Ytcmilajlngnibaa
open Go.RowKit Go.Rel

def numbersB (i : Ins) : Bool := holdsB (regS (hasRd i.op)) i.rd && holdsB (regS (hasRn i.op)) i.rn && holdsB (regS (hasRm i.op)) i.rm && holdsB (regS (hasRa i.op)) i.ra && holdsB (subS i.op) i.sub && holdsB (immS i.op i.sub) i.imm && holdsB (imm2S i.op) i.imm2 && holdsB (amountS i.op) i.amount && holdsB (shiftS i.op) i.shift && holdsB (condS i.op) i.cond
def signsB (i : Ins) : Bool := (flagsR i.op i.sub || !i.flags) && (minusR i.op || !i.minus) && (notR i.op || !i.not) && (linkR i.op || !i.link)
def rightB (i : Ins) : Bool := decide (1 ≤ i.op) && decide (i.op ≤ 37) && (numbersB i && signsB i && rightSysB i.op i.sys && rightFormB i.op i.sub i.amount i.imm i.imm2)

def okS (s : Span) : Prop := s.st ≠ 0 ∨ (s.lo = 0 ∧ s.hi = 0)
theorem okS_up (n : Int) : okS (upToS n) := Or.inl (by simp [upToS])
theorem okS_zero : okS zeroS := Or.inr ⟨rfl, rfl⟩
theorem okS_reg (b : Bool) : okS (regS b) := by cases b <;> simp [okS, regS, h31, h1]
theorem okS_bif (b : Bool) {x y : Span} (hx : okS x) (hy : okS y) : okS (bif b then x else y) := by cases b <;> assumption
theorem okS_sub (op : Int) : okS (subS op) := okS_bif _ (okS_up _) (okS_bif _ (okS_up _) (okS_bif _ (Or.inl (by decide)) (okS_bif _ (okS_up _) okS_zero)))
theorem okS_shift (op : Int) : okS (shiftS op) := okS_bif _ (okS_up _) (okS_bif _ (okS_up _) okS_zero)
theorem okS_cond (op : Int) : okS (condS op) := okS_bif _ (okS_up _) okS_zero
theorem okS_imm2 (op : Int) : okS (imm2S op) := okS_bif _ (okS_up _) okS_zero
theorem okS_amount (op : Int) : okS (amountS op) := okS_bif _ (Or.inl (by decide)) (okS_bif _ (okS_up _) (okS_bif _ (okS_up _) (okS_bif _ (Or.inl (by decide)) (okS_bif _ (Or.inl (by decide)) okS_zero))))
theorem okS_imm (op sub : Int) : okS (immS op sub) := okS_bif _ (okS_up _) (okS_bif _ (okS_up _) (okS_bif _ (okS_up _) (okS_bif _ (okS_bif _ (Or.inl (by decide)) (Or.inl (by decide))) (okS_bif _ (Or.inl (by decide)) (okS_bif _ (Or.inl (by decide)) (okS_bif _ (Or.inl (by decide)) (okS_bif _ (Or.inl (by decide)) (okS_bif _ (Or.inl (by decide)) (okS_bif _ (okS_up _) (okS_bif _ (okS_up _) okS_zero))))))))))

theorem numbers_r (i : Ins) (w : World) :
    Calls Try.prog 53 #[.agg (cellsR i (immS i.op i.sub) (amountS i.op) (imm2S i.op)), i.val] w fun e w' => e = .returned (.bool (numbersB i)) ∧ Below w.heap.size w w' :=
  numbers_c 0 (h31 (hasRd i.op)) (h1 (hasRd i.op)) 0 (h31 (hasRn i.op)) (h1 (hasRn i.op)) 0 (h31 (hasRm i.op)) (h1 (hasRm i.op)) 0 (h31 (hasRa i.op)) (h1 (hasRa i.op)) (subS i.op).lo (subS i.op).hi (subS i.op).st (immS i.op i.sub).lo (immS i.op i.sub).hi (immS i.op i.sub).st (imm2S i.op).lo (imm2S i.op).hi (imm2S i.op).st (amountS i.op).lo (amountS i.op).hi (amountS i.op).st (shiftS i.op).lo (shiftS i.op).hi (shiftS i.op).st (condS i.op).lo (condS i.op).hi (condS i.op).st (flagsR i.op i.sub) (minusR i.op) (notR i.op) (linkR i.op) i
    (okS_reg _) (okS_reg _) (okS_reg _) (okS_reg _) (okS_sub _) (okS_imm _ _) (okS_imm2 _) (okS_amount _) (okS_shift _) (okS_cond _) w
theorem signs_r (i : Ins) (w : World) :
    Calls Try.prog 54 #[.agg (cellsR i (immS i.op i.sub) (amountS i.op) (imm2S i.op)), i.val] w fun e w' => e = .returned (.bool (signsB i)) ∧ Below w.heap.size w w' :=
  signs_c 0 (h31 (hasRd i.op)) (h1 (hasRd i.op)) 0 (h31 (hasRn i.op)) (h1 (hasRn i.op)) 0 (h31 (hasRm i.op)) (h1 (hasRm i.op)) 0 (h31 (hasRa i.op)) (h1 (hasRa i.op)) (subS i.op).lo (subS i.op).hi (subS i.op).st (immS i.op i.sub).lo (immS i.op i.sub).hi (immS i.op i.sub).st (imm2S i.op).lo (imm2S i.op).hi (imm2S i.op).st (amountS i.op).lo (amountS i.op).hi (amountS i.op).st (shiftS i.op).lo (shiftS i.op).hi (shiftS i.op).st (condS i.op).lo (condS i.op).hi (condS i.op).st (flagsR i.op i.sub) (minusR i.op) (notR i.op) (linkR i.op) i w

/-- A whole row read, by an operation whose guard says yes, or that has none. -/
theorem wpList_load_if {P : Program} {ops : Array Oper} {rest : List Oper} {o : Oper} {a : Act} {w : World} {Q : Exit → Act → World → Prop} (hw : Region.wanted o (yielded ops a.tmps) = true) (ty : TypeId) (x : Operand) (ho : o.op = .load ty x)
    (g : Nat) (hx : a.eval x = .pointer (some ⟨g, 0, none⟩)) (t : TypeId) (cs : Array Value) (fr : Nat × Nat) (d : TypeDesc) (hg : w.heap[g]? = some (.cells cs t fr))
    (hu : P.underlying ty = some d) (hd : (match d with | .struct _ | .array _ _ => true | _ => false) = true) (hi : (P.info? ty).map (·.size) = some cs.size)
    (h : wpList P ops Q rest (a.put o.dst (.agg cs)) w) : wpList P ops Q (o :: rest) a w :=
  BigFrame.wpList_want hw fun _ hK => wp_load_row ty x ho g hx t cs fr d hg hu hd hi (hK _ _ h)

/-- Two blocks of Right's own: the instruction's box, and further on the room. -/
structure Two (i : Ins) (w0 : World) (b : Nat) (R : Array Value) (w : World) : Prop where
  below : Below w0.heap.size w0 w
  box : w.heap[w0.heap.size]? = some (.cells i.cells 25)
  room : w.heap[b]? = some (.cells R 56)

theorem Two.grow {i : Ins} {w0 w w' : World} {b : Nat} {R : Array Value} (h : Two i w0 b R w) (hb : Below w.heap.size w w') : Two i w0 b R w' := by
  have h1 := (Array.getElem?_eq_some_iff.1 h.box).1
  have h2 := (Array.getElem?_eq_some_iff.1 h.room).1
  refine ⟨below_then h.below hb, ?_, ?_⟩
  · rw [hb.block _ h1]; exact h.box
  · rw [hb.block _ h2]; exact h.room

theorem two_start {i : Ins} {w w1 : World} (h : Below (w.alloc (.cells i.cells 25)).heap.size (w.alloc (.cells i.cells 25)) w1) (Z R : Array Value) : Two i w w1.heap.size R ((w1.alloc (.cells Z 56)).setRow w1.heap.size R) := by
  have e1 : (w.alloc (.cells i.cells 25)).heap.size = w.heap.size + 1 := Array.size_push ..
  have hs := h.size
  have hx : Below w.heap.size w (w1.alloc (.cells Z 56)) := below_then (below_alloc _ _) (below_then h (below_alloc _ _))
  refine ⟨hx.trans ⟨rfl, rfl, rfl, by rw [setRow_size]; exact Nat.le_refl _, fun k hk => setRow_other _ _ _ _ (by omega)⟩, ?_, setRow_heap _ _ _ _ _ _ (heap_alloc_new _ _)⟩
  rw [setRow_other _ _ _ _ (by omega), Below.heap_alloc _ _ _ (by omega), h.block _ (by omega), heap_alloc_new]

set_option maxRecDepth 8000 in
set_option maxHeartbeats 8000000 in
theorem right_c (i : Ins) (w : World) :
    Calls Try.prog 15 #[i.val] w fun e w' => e = .returned (.bool (rightB i)) ∧ Below w.heap.size w w' := by
  by_cases ha : 1 ≤ i.op
  · by_cases hb : i.op ≤ 37
    · have hR : Hid (rightB i = (numbersB i && signsB i && rightSysB i.op i.sys && rightFormB i.op i.sub i.amount i.imm i.imm2)) := by show _ = _; unfold rightB; simp [ha, hb]
      go_enter Try.func15, Try.ntmps15
      go_upto_region 3 with fail
      iterate 6 go_step
      refine (roomOf_c i _).mono ?_
      rintro e w1 ⟨rfl, hb1⟩
      dsimp only
      iterate 4 go_step
      refine wpList_store_row rfl 56 _ _ rfl w1.heap.size (cellsR i (immS i.op i.sub) (amountS i.op) (imm2S i.op)) rfl rfl 56 _ (heap_alloc_new _ _) (by kernel_rfl) rfl (cells_one _ _ _ _) ?_
      generalize hw2 : (w1.alloc _).setRow _ _ = w2
      have H2 : Two i w w1.heap.size (cellsR i (immS i.op i.sub) (amountS i.op) (imm2S i.op)) w2 := by rw [← hw2]; exact two_start hb1 _ _
      clear hw2 hb1
      generalize w1.heap.size = b at *
      simp only [Act.put]
      cases hN : numbersB i with
      | false =>
        repeat' (first | with_reducible refine then_exit ?_ | with_reducible refine then_normal ?_ | with_reducible refine inBlock_eq ?_ | with_reducible refine inBlock_ne rfl ?_ | with_reducible refine inBlock_normal ?_ | (refine wpList_load_if rfl 56 _ rfl b rfl 56 _ (0, 0) _ H2.room Try.underlying56 rfl (by kernel_rfl) ?_; simp only [Act.put, List.setIfInBounds_toArray, List.set_cons_succ, List.set_cons_zero]) | (refine wpList_load_if rfl 25 _ rfl w.heap.size rfl 25 _ (0, 0) _ H2.box Try.underlying25 rfl (by kernel_rfl) ?_; simp only [Act.put, List.setIfInBounds_toArray, List.set_cons_succ, List.set_cons_zero]) | (go_at_call 53; refine (numbers_r i _).mono ?_; rw [hN]; rintro e w3 ⟨rfl, hb3⟩; replace H2 := H2.grow hb3; clear hb3; dsimp only) | (go_at_call 54; refine (signs_r i _).mono ?_; rintro e w3 ⟨rfl, hb3⟩; replace H2 := H2.grow hb3; clear hb3; dsimp only) | (go_at_call 55; refine (rightSys_c i _).mono ?_; rintro e w3 ⟨rfl, hb3⟩; replace H2 := H2.grow hb3; clear hb3; dsimp only) | (go_at_call 56; refine (rightForm_c i _).mono ?_; rintro e w3 ⟨rfl, hb3⟩; replace H2 := H2.grow hb3; clear hb3; dsimp only) | go_step)
        go_ret
        exact ⟨ret_bool (by rw [hR.out, hN]; rfl), H2.below⟩
      | true =>
        cases hS : signsB i with
        | false =>
          repeat' (first | with_reducible refine then_exit ?_ | with_reducible refine then_normal ?_ | with_reducible refine inBlock_eq ?_ | with_reducible refine inBlock_ne rfl ?_ | with_reducible refine inBlock_normal ?_ | (refine wpList_load_if rfl 56 _ rfl b rfl 56 _ (0, 0) _ H2.room Try.underlying56 rfl (by kernel_rfl) ?_; simp only [Act.put, List.setIfInBounds_toArray, List.set_cons_succ, List.set_cons_zero]) | (refine wpList_load_if rfl 25 _ rfl w.heap.size rfl 25 _ (0, 0) _ H2.box Try.underlying25 rfl (by kernel_rfl) ?_; simp only [Act.put, List.setIfInBounds_toArray, List.set_cons_succ, List.set_cons_zero]) | (go_at_call 53; refine (numbers_r i _).mono ?_; rw [hN]; rintro e w3 ⟨rfl, hb3⟩; replace H2 := H2.grow hb3; clear hb3; dsimp only) | (go_at_call 54; refine (signs_r i _).mono ?_; rw [hS]; rintro e w3 ⟨rfl, hb3⟩; replace H2 := H2.grow hb3; clear hb3; dsimp only) | (go_at_call 55; refine (rightSys_c i _).mono ?_; rintro e w3 ⟨rfl, hb3⟩; replace H2 := H2.grow hb3; clear hb3; dsimp only) | (go_at_call 56; refine (rightForm_c i _).mono ?_; rintro e w3 ⟨rfl, hb3⟩; replace H2 := H2.grow hb3; clear hb3; dsimp only) | go_step)
          go_ret
          exact ⟨ret_bool (by rw [hR.out, hN, hS]; rfl), H2.below⟩
        | true =>
          cases hY : rightSysB i.op i.sys with
          | false =>
            repeat' (first | with_reducible refine then_exit ?_ | with_reducible refine then_normal ?_ | with_reducible refine inBlock_eq ?_ | with_reducible refine inBlock_ne rfl ?_ | with_reducible refine inBlock_normal ?_ | (refine wpList_load_if rfl 56 _ rfl b rfl 56 _ (0, 0) _ H2.room Try.underlying56 rfl (by kernel_rfl) ?_; simp only [Act.put, List.setIfInBounds_toArray, List.set_cons_succ, List.set_cons_zero]) | (refine wpList_load_if rfl 25 _ rfl w.heap.size rfl 25 _ (0, 0) _ H2.box Try.underlying25 rfl (by kernel_rfl) ?_; simp only [Act.put, List.setIfInBounds_toArray, List.set_cons_succ, List.set_cons_zero]) | (go_at_call 53; refine (numbers_r i _).mono ?_; rw [hN]; rintro e w3 ⟨rfl, hb3⟩; replace H2 := H2.grow hb3; clear hb3; dsimp only) | (go_at_call 54; refine (signs_r i _).mono ?_; rw [hS]; rintro e w3 ⟨rfl, hb3⟩; replace H2 := H2.grow hb3; clear hb3; dsimp only) | (go_at_call 55; refine (rightSys_c i _).mono ?_; rw [hY]; rintro e w3 ⟨rfl, hb3⟩; replace H2 := H2.grow hb3; clear hb3; dsimp only) | (go_at_call 56; refine (rightForm_c i _).mono ?_; rintro e w3 ⟨rfl, hb3⟩; replace H2 := H2.grow hb3; clear hb3; dsimp only) | go_step)
            go_ret
            exact ⟨ret_bool (by rw [hR.out, hN, hS, hY]; rfl), H2.below⟩
          | true =>
            repeat' (first | with_reducible refine then_exit ?_ | with_reducible refine then_normal ?_ | with_reducible refine inBlock_eq ?_ | with_reducible refine inBlock_ne rfl ?_ | with_reducible refine inBlock_normal ?_ | (refine wpList_load_if rfl 56 _ rfl b rfl 56 _ (0, 0) _ H2.room Try.underlying56 rfl (by kernel_rfl) ?_; simp only [Act.put, List.setIfInBounds_toArray, List.set_cons_succ, List.set_cons_zero]) | (refine wpList_load_if rfl 25 _ rfl w.heap.size rfl 25 _ (0, 0) _ H2.box Try.underlying25 rfl (by kernel_rfl) ?_; simp only [Act.put, List.setIfInBounds_toArray, List.set_cons_succ, List.set_cons_zero]) | (go_at_call 53; refine (numbers_r i _).mono ?_; rw [hN]; rintro e w3 ⟨rfl, hb3⟩; replace H2 := H2.grow hb3; clear hb3; dsimp only) | (go_at_call 54; refine (signs_r i _).mono ?_; rw [hS]; rintro e w3 ⟨rfl, hb3⟩; replace H2 := H2.grow hb3; clear hb3; dsimp only) | (go_at_call 55; refine (rightSys_c i _).mono ?_; rw [hY]; rintro e w3 ⟨rfl, hb3⟩; replace H2 := H2.grow hb3; clear hb3; dsimp only) | (go_at_call 56; refine (rightForm_c i _).mono ?_; rintro e w3 ⟨rfl, hb3⟩; replace H2 := H2.grow hb3; clear hb3; dsimp only) | go_step)
            go_ret
            exact ⟨ret_bool (by rw [hR.out, hN, hS, hY]; rfl), H2.below⟩
    · have hR : Hid (rightB i = false) := by show _ = _; unfold rightB; simp [hb]
      have hb : 37 < i.op := by omega
      go_enter Try.func15, Try.ntmps15
      go_wp2
      go_ret
      exact ⟨ret_bool hR.out.symm, below_alloc _ _⟩
  · have hR : Hid (rightB i = false) := by show _ = _; unfold rightB; simp [ha]
    have ha : i.op < 1 := by omega
    go_enter Try.func15, Try.ntmps15
    go_wp2
    go_ret
    exact ⟨ret_bool hR.out.symm, below_alloc _ _⟩
end Go.Proofs.Ytcmilajlngnibaa
