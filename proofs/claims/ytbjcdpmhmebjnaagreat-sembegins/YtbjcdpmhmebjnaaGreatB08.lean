/- What a span holds, and whether the numbers and signs of an instruction are in its room: contracts. -/
import Derived.Test.YtbjcdpmhmebjnaaGreatB07
import Derived.Test.YtbjcdpmhmebjnaaGreatB04
import Derived.BigQuiet
import Derived.Test.YtbjcdpmhmebjnaaGreatB01
namespace Go.Proofs.YtbjcdpmhmebjnaaGreat
open Go.RowKit Go.Rel


set_option maxHeartbeats 400000 in
theorem holds_c (lo hi st n : Int) (hs : Hid (st ≠ 0 ∨ (lo = 0 ∧ hi = 0))) (w : World) :
    Calls Tryz.prog 177 #[.agg #[vI lo, vI hi, vI st], vI n] w fun e w' => e = .returned (.bool (holdsB ⟨lo, hi, st⟩ n)) ∧ w' = w.alloc (.cells #[vI lo, vI hi, vI st] 105) := by
  by_cases h1 : lo ≤ n
  · by_cases h2 : n ≤ hi
    · by_cases h3 : (n == 0) = true
      · have hR : Hid (holdsB ⟨lo, hi, st⟩ n = true) := by show _ = _; simp [holdsB, h1, h2, h3]
        go_enter Tryz.func177, Tryz.ntmps177
        go_wp2
        go_ret
        exact ⟨ret_bool hR.out.symm, rfl⟩
      · have h3 : (n == 0) = false := by simpa using h3
        have h4 : ¬ st = 0 := by
          rcases hs.out with h | ⟨rfl, rfl⟩
          · exact h
          · have : n ≠ 0 := by simpa using h3
            omega
        have hR : Hid (holdsB ⟨lo, hi, st⟩ n = (n.tmod st == 0)) := by show _ = _; simp only [holdsB, h1, h2, h3]; simp
        go_enter Tryz.func177, Tryz.ntmps177
        go_wp2
        go_ret
        exact ⟨ret_bool hR.out.symm, rfl⟩
    · have hR : Hid (holdsB ⟨lo, hi, st⟩ n = false) := by show _ = _; simp [holdsB, h2]
      have h2 : hi < n := by omega
      go_enter Tryz.func177, Tryz.ntmps177
      go_wp2
      go_ret
      exact ⟨ret_bool hR.out.symm, rfl⟩
  · have hR : Hid (holdsB ⟨lo, hi, st⟩ n = false) := by show _ = _; simp [holdsB, h1]
    have h1 : n < lo := by omega
    go_enter Tryz.func177, Tryz.ntmps177
    go_wp2
    go_ret
    exact ⟨ret_bool hR.out.symm, rfl⟩

set_option maxRecDepth 4000 in
set_option maxHeartbeats 4000000 in
theorem numbers_c (a0 a1 a2 b0 b1 b2 c0 c1 c2 d0 d1 d2 e0 e1 e2 f0 f1 f2 g0 g1 g2 h0 h1' h2 k0 k1 k2 l0 l1 l2 : Int) (q1 q2 q3 q4 : Bool) (i : Ins)
    (ha : Hid (a2 ≠ 0 ∨ (a0 = 0 ∧ a1 = 0))) (hb : Hid (b2 ≠ 0 ∨ (b0 = 0 ∧ b1 = 0))) (hc : Hid (c2 ≠ 0 ∨ (c0 = 0 ∧ c1 = 0))) (hd : Hid (d2 ≠ 0 ∨ (d0 = 0 ∧ d1 = 0))) (he : Hid (e2 ≠ 0 ∨ (e0 = 0 ∧ e1 = 0))) (hf : Hid (f2 ≠ 0 ∨ (f0 = 0 ∧ f1 = 0))) (hg : Hid (g2 ≠ 0 ∨ (g0 = 0 ∧ g1 = 0))) (hh : Hid (h2 ≠ 0 ∨ (h0 = 0 ∧ h1' = 0))) (hk : Hid (k2 ≠ 0 ∨ (k0 = 0 ∧ k1 = 0))) (hl : Hid (l2 ≠ 0 ∨ (l0 = 0 ∧ l1 = 0))) (w : World) :
    Calls Tryz.prog 93 #[.agg #[vI a0, vI a1, vI a2, vI b0, vI b1, vI b2, vI c0, vI c1, vI c2, vI d0, vI d1, vI d2, vI e0, vI e1, vI e2, vI f0, vI f1, vI f2, vI g0, vI g1, vI g2, vI h0, vI h1', vI h2, vI k0, vI k1, vI k2, vI l0, vI l1, vI l2, .bool q1, .bool q2, .bool q3, .bool q4], i.val] w fun e w' =>
      e = .returned (.bool (holdsB ⟨a0, a1, a2⟩ i.rd && holdsB ⟨b0, b1, b2⟩ i.rn && holdsB ⟨c0, c1, c2⟩ i.rm && holdsB ⟨d0, d1, d2⟩ i.ra && holdsB ⟨e0, e1, e2⟩ i.sub && holdsB ⟨f0, f1, f2⟩ i.imm && holdsB ⟨g0, g1, g2⟩ i.imm2 && holdsB ⟨h0, h1', h2⟩ i.amount && holdsB ⟨k0, k1, k2⟩ i.shift && holdsB ⟨l0, l1, l2⟩ i.cond)) ∧ Below w.heap.size w w' := by
  obtain ⟨op, sub, rd, rn, rm, ra, imm, imm2, amount, shift, cond, sys, flags, minus, not, link⟩ := i
  go_enter Tryz.func93, Tryz.ntmps93
  go_wp2_with (go_at_call 177; refine (holds_c _ _ _ _ (by assumption) _).mono ?_; rintro e w' ⟨rfl, rfl⟩)
  all_goals (go_ret; refine ⟨ret_bool ?_, by repeat (first | exact Below.refl _ _ | apply below_more)⟩; simp [*])

set_option maxRecDepth 4000 in
set_option maxHeartbeats 4000000 in
theorem signs_c (a0 a1 a2 b0 b1 b2 c0 c1 c2 d0 d1 d2 e0 e1 e2 f0 f1 f2 g0 g1 g2 h0 h1' h2 k0 k1 k2 l0 l1 l2 : Int) (q1 q2 q3 q4 : Bool) (i : Ins) (w : World) :
    Calls Tryz.prog 94 #[.agg #[vI a0, vI a1, vI a2, vI b0, vI b1, vI b2, vI c0, vI c1, vI c2, vI d0, vI d1, vI d2, vI e0, vI e1, vI e2, vI f0, vI f1, vI f2, vI g0, vI g1, vI g2, vI h0, vI h1', vI h2, vI k0, vI k1, vI k2, vI l0, vI l1, vI l2, .bool q1, .bool q2, .bool q3, .bool q4], i.val] w fun e w' =>
      e = .returned (.bool ((q1 || !i.flags) && (q2 || !i.minus) && (q3 || !i.not) && (q4 || !i.link))) ∧ Below w.heap.size w w' := by
  obtain ⟨op, sub, rd, rn, rm, ra, imm, imm2, amount, shift, cond, sys, flags, minus, not, link⟩ := i
  go_enter Tryz.func94, Tryz.ntmps94
  go_wp2
  all_goals (go_ret; refine ⟨ret_bool ?_, by repeat (first | exact Below.refl _ _ | apply below_more)⟩; simp [*])
end Go.Proofs.YtbjcdpmhmebjnaaGreat
/- Whether the system register and the form of an instruction are right: contracts. -/
namespace Go.Proofs.YtbjcdpmhmebjnaaGreat
open Go.RowKit Go.Rel

def sysB (n : Int) : Bool := n == 17920 || n == 16897 || n == 16896 || n == 17040 || n == 17152 || n == 16904 || n == 16389 || n == 16914 || n == 23057 || n == 23056 || n == 24194 || n == 18016 || n == 18017 || n == 16944 || n == 18013 || n == 24322 || n == 24345 || n == 24346
def rightSysB (op sys : Int) : Bool := bif op != 31 && op != 32 then sys == 0 else sysB sys
def rightFormB (op sub amount imm imm2 : Int) : Bool := bif op == 4 then maskE amount imm imm2 == 0 else bif op == 5 then sub != 1 else true


set_option maxHeartbeats 4000000 in
theorem rightSys_c (i : Ins) (w : World) :
    Calls Tryz.prog 95 #[i.val] w fun e w' => e = .returned (.bool (rightSysB i.op i.sys)) ∧ Below w.heap.size w w' := by
  obtain ⟨op, sub, rd, rn, rm, ra, imm, imm2, amount, shift, cond, sys, flags, minus, not, link⟩ := i
  by_cases h31 : op = 31
  · subst h31
    have hR : Hid (rightSysB 31 sys = sysB sys) := rfl
    go_enter Tryz.func95, Tryz.ntmps95
    go_wp2
    all_goals (go_ret; refine ⟨ret_bool ?_, by repeat (first | exact Below.refl _ _ | apply below_more)⟩; rw [hR.out]; simp only [sysB, Bool.or_true, Bool.true_or, Bool.or_false, *])
  · by_cases h32 : op = 32
    · subst h32
      have hR : Hid (rightSysB 32 sys = sysB sys) := rfl
      go_enter Tryz.func95, Tryz.ntmps95
      go_wp2
      all_goals (go_ret; refine ⟨ret_bool ?_, by repeat (first | exact Below.refl _ _ | apply below_more)⟩; rw [hR.out]; simp only [sysB, Bool.or_true, Bool.true_or, Bool.or_false, *])
    · have g1 : (op != 31) = true := by simpa using h31
      have g2 : (op != 32) = true := by simpa using h32
      have hR : Hid (rightSysB op sys = (sys == 0)) := by show _ = _; unfold rightSysB; rw [g1, g2]; rfl
      go_enter Tryz.func95, Tryz.ntmps95
      go_wp2
      go_ret
      exact ⟨ret_bool hR.out.symm, below_alloc _ _⟩

set_option maxHeartbeats 4000000 in
theorem maskOf_c (i : Ins) (w : World) :
    Calls Tryz.prog 178 #[i.val] w fun e w' => e = .returned (.tuple #[.int .u64 (maskV i.amount i.imm i.imm2), .int .i64 (maskE i.amount i.imm i.imm2)]) ∧ Below w.heap.size w w' := by
  obtain ⟨op, sub, rd, rn, rm, ra, imm, imm2, amount, shift, cond, sys, flags, minus, not, link⟩ := i
  go_enter Tryz.func178, Tryz.ntmps178
  go_wp2_with (go_at_call 199; refine (mask_c _ _ _ _).mono ?_; rintro e w' ⟨rfl, m, rfl⟩)
  go_ret2
  exact ⟨rfl, below_draws (below_alloc _ _)⟩

set_option maxHeartbeats 4000000 in
theorem rightForm_c (i : Ins) (w : World) :
    Calls Tryz.prog 96 #[i.val] w fun e w' => e = .returned (.bool (rightFormB i.op i.sub i.amount i.imm i.imm2)) ∧ Below w.heap.size w w' := by
  obtain ⟨op, sub, rd, rn, rm, ra, imm, imm2, amount, shift, cond, sys, flags, minus, not, link⟩ := i
  go_enter Tryz.func96, Tryz.ntmps96
  go_wp2_with (go_at_call 178; refine (maskOf_c ⟨_, _, _, _, _, _, _, _, _, _, _, _, _, _, _, _⟩ _).mono ?_; rintro e w' ⟨rfl, hb⟩)
  · go_ret
    refine ⟨ret_bool ?_, below_then (below_alloc _ _) hb⟩
    simp only [rightFormB, cond_true, *]
  · go_ret
    refine ⟨ret_bool ?_, below_alloc _ _⟩
    simp only [rightFormB, cond_true, cond_false, *]
  · go_ret
    refine ⟨ret_bool ?_, below_alloc _ _⟩
    simp only [rightFormB, cond_false, *]
end Go.Proofs.YtbjcdpmhmebjnaaGreat
/- Whether an instruction is right, as Right of package insn tells it: a contract, for every instruction. -/
namespace Go.Proofs.YtbjcdpmhmebjnaaGreat
open Go.RowKit Go.Rel

def numbersB (i : Ins) : Bool := holdsB (regS (hasRd i.op)) i.rd && holdsB (regS (hasRn i.op)) i.rn && holdsB (regS (hasRm i.op)) i.rm && holdsB (regS (hasRa i.op)) i.ra && holdsB (subS i.op) i.sub && holdsB (immS i.op i.sub) i.imm && holdsB (imm2S i.op) i.imm2 && holdsB (amountS i.op) i.amount && holdsB (shiftS i.op) i.shift && holdsB (condS i.op) i.cond
def signsB (i : Ins) : Bool := (flagsR i.op i.sub || !i.flags) && (minusR i.op || !i.minus) && (notR i.op || !i.not) && (linkR i.op || !i.link)
def rightB (i : Ins) : Bool := decide (1 ≤ i.op) && decide (i.op ≤ 37) && (numbersB i && signsB i && rightSysB i.op i.sys && rightFormB i.op i.sub i.amount i.imm i.imm2)

def okS (s : Span) : Prop := s.st ≠ 0 ∨ (s.lo = 0 ∧ s.hi = 0)
theorem okS_up (n : Int) : okS (upToS n) := Or.inl (by simp [upToS])
theorem okS_zero : okS zeroS := Or.inr ⟨rfl, rfl⟩
theorem okS_reg (b : Bool) : okS (regS b) := by cases b <;> simp [okS, regS, h31, h1]
theorem okS_bif (b : Bool) {x y : Span} (hx : okS x) (hy : okS y) : okS (bif b then x else y) := by cases b <;> assumption
theorem okS_sub (op : Int) : okS (subS op) := okS_bif _ (okS_up _) (okS_bif _ (okS_up _) (okS_bif _ (Or.inl (by decide)) (okS_bif _ (okS_up _) okS_zero)))
theorem okS_shift (op : Int) : okS (shiftS op) := okS_bif _ (okS_up _) (okS_bif _ (okS_up _) okS_zero)
theorem okS_cond (op : Int) : okS (condS op) := okS_bif _ (okS_up _) okS_zero
theorem okS_imm2 (op : Int) : okS (imm2S op) := okS_bif _ (okS_up _) okS_zero
theorem okS_amount (op : Int) : okS (amountS op) := okS_bif _ (Or.inl (by decide)) (okS_bif _ (okS_up _) (okS_bif _ (okS_up _) (okS_bif _ (Or.inl (by decide)) (okS_bif _ (Or.inl (by decide)) okS_zero))))
theorem okS_imm (op sub : Int) : okS (immS op sub) := okS_bif _ (okS_up _) (okS_bif _ (okS_up _) (okS_bif _ (okS_up _) (okS_bif _ (okS_bif _ (Or.inl (by decide)) (Or.inl (by decide))) (okS_bif _ (Or.inl (by decide)) (okS_bif _ (Or.inl (by decide)) (okS_bif _ (Or.inl (by decide)) (okS_bif _ (Or.inl (by decide)) (okS_bif _ (Or.inl (by decide)) (okS_bif _ (okS_up _) (okS_bif _ (okS_up _) okS_zero))))))))))

theorem numbers_r (i : Ins) (w : World) :
    Calls Tryz.prog 93 #[.agg (cellsR i (immS i.op i.sub) (amountS i.op) (imm2S i.op)), i.val] w fun e w' => e = .returned (.bool (numbersB i)) ∧ Below w.heap.size w w' :=
  numbers_c 0 (h31 (hasRd i.op)) (h1 (hasRd i.op)) 0 (h31 (hasRn i.op)) (h1 (hasRn i.op)) 0 (h31 (hasRm i.op)) (h1 (hasRm i.op)) 0 (h31 (hasRa i.op)) (h1 (hasRa i.op)) (subS i.op).lo (subS i.op).hi (subS i.op).st (immS i.op i.sub).lo (immS i.op i.sub).hi (immS i.op i.sub).st (imm2S i.op).lo (imm2S i.op).hi (imm2S i.op).st (amountS i.op).lo (amountS i.op).hi (amountS i.op).st (shiftS i.op).lo (shiftS i.op).hi (shiftS i.op).st (condS i.op).lo (condS i.op).hi (condS i.op).st (flagsR i.op i.sub) (minusR i.op) (notR i.op) (linkR i.op) i
    (okS_reg _) (okS_reg _) (okS_reg _) (okS_reg _) (okS_sub _) (okS_imm _ _) (okS_imm2 _) (okS_amount _) (okS_shift _) (okS_cond _) w
theorem signs_r (i : Ins) (w : World) :
    Calls Tryz.prog 94 #[.agg (cellsR i (immS i.op i.sub) (amountS i.op) (imm2S i.op)), i.val] w fun e w' => e = .returned (.bool (signsB i)) ∧ Below w.heap.size w w' :=
  signs_c 0 (h31 (hasRd i.op)) (h1 (hasRd i.op)) 0 (h31 (hasRn i.op)) (h1 (hasRn i.op)) 0 (h31 (hasRm i.op)) (h1 (hasRm i.op)) 0 (h31 (hasRa i.op)) (h1 (hasRa i.op)) (subS i.op).lo (subS i.op).hi (subS i.op).st (immS i.op i.sub).lo (immS i.op i.sub).hi (immS i.op i.sub).st (imm2S i.op).lo (imm2S i.op).hi (imm2S i.op).st (amountS i.op).lo (amountS i.op).hi (amountS i.op).st (shiftS i.op).lo (shiftS i.op).hi (shiftS i.op).st (condS i.op).lo (condS i.op).hi (condS i.op).st (flagsR i.op i.sub) (minusR i.op) (notR i.op) (linkR i.op) i w

/-- A whole row read, by an operation whose guard says yes, or that has none. -/
theorem wpList_load_if {P : Program} {ops : Array Oper} {rest : List Oper} {o : Oper} {a : Act} {w : World} {Q : Exit → Act → World → Prop} (hw : Region.wanted o (yielded ops a.tmps) = true) (ty : TypeId) (x : Operand) (ho : o.op = .load ty x)
    (g : Nat) (hx : a.eval x = .pointer (some ⟨g, 0, none⟩)) (t : TypeId) (cs : Array Value) (fr : Nat × Nat) (d : TypeDesc) (hg : w.heap[g]? = some (.cells cs t fr))
    (hu : P.underlying ty = some d) (hd : (match d with | .struct _ | .array _ _ => true | _ => false) = true) (hi : (P.info? ty).map (·.size) = some cs.size)
    (h : wpList P ops Q rest (a.put o.dst (.agg cs)) w) : wpList P ops Q (o :: rest) a w :=
  BigFrame.wpList_want hw fun _ hK => wp_load_row ty x ho g hx t cs fr d hg hu hd hi (hK _ _ h)

/-- Two blocks of Right's own: the instruction's box, and further on the room. -/
structure Two (i : Ins) (w0 : World) (b : Nat) (R : Array Value) (w : World) : Prop where
  below : Below w0.heap.size w0 w
  box : w.heap[w0.heap.size]? = some (.cells i.cells 47)
  room : w.heap[b]? = some (.cells R 107)

theorem Two.grow {i : Ins} {w0 w w' : World} {b : Nat} {R : Array Value} (h : Two i w0 b R w) (hb : Below w.heap.size w w') : Two i w0 b R w' := by
  have h1 := (Array.getElem?_eq_some_iff.1 h.box).1
  have h2 := (Array.getElem?_eq_some_iff.1 h.room).1
  refine ⟨below_then h.below hb, ?_, ?_⟩
  · rw [hb.block _ h1]; exact h.box
  · rw [hb.block _ h2]; exact h.room

theorem two_start {i : Ins} {w w1 : World} (h : Below (w.alloc (.cells i.cells 47)).heap.size (w.alloc (.cells i.cells 47)) w1) (Z R : Array Value) : Two i w w1.heap.size R ((w1.alloc (.cells Z 107)).setRow w1.heap.size R) := by
  have e1 : (w.alloc (.cells i.cells 47)).heap.size = w.heap.size + 1 := Array.size_push ..
  have hs := h.size
  have hx : Below w.heap.size w (w1.alloc (.cells Z 107)) := below_then (below_alloc _ _) (below_then h (below_alloc _ _))
  refine ⟨hx.trans ⟨rfl, rfl, rfl, by rw [setRow_size]; exact Nat.le_refl _, fun k hk => setRow_other _ _ _ _ (by omega)⟩, ?_, setRow_heap _ _ _ _ _ _ (heap_alloc_new _ _)⟩
  rw [setRow_other _ _ _ _ (by omega), Below.heap_alloc _ _ _ (by omega), h.block _ (by omega), heap_alloc_new]

set_option maxRecDepth 8000 in
set_option maxHeartbeats 8000000 in
theorem right_c (i : Ins) (w : World) :
    Calls Tryz.prog 37 #[i.val] w fun e w' => e = .returned (.bool (rightB i)) ∧ Below w.heap.size w w' := by
  by_cases ha : 1 ≤ i.op
  · by_cases hb : i.op ≤ 37
    · have hR : Hid (rightB i = (numbersB i && signsB i && rightSysB i.op i.sys && rightFormB i.op i.sub i.amount i.imm i.imm2)) := by show _ = _; unfold rightB; simp [ha, hb]
      go_enter Tryz.func37, Tryz.ntmps37
      go_upto_region 3 with fail
      iterate 6 go_step
      refine (roomOf_c i _).mono ?_
      rintro e w1 ⟨rfl, hb1⟩
      dsimp only
      iterate 4 go_step
      refine wpList_store_row rfl 107 _ _ rfl w1.heap.size (cellsR i (immS i.op i.sub) (amountS i.op) (imm2S i.op)) rfl rfl 107 _ (heap_alloc_new _ _) (by kernel_rfl) rfl (cells_one _ _ _ _) ?_
      generalize hw2 : (w1.alloc _).setRow _ _ = w2
      have H2 : Two i w w1.heap.size (cellsR i (immS i.op i.sub) (amountS i.op) (imm2S i.op)) w2 := by rw [← hw2]; exact two_start hb1 _ _
      clear hw2 hb1
      generalize w1.heap.size = b at *
      simp only [Act.put]
      cases hN : numbersB i with
      | false =>
        repeat' (first | with_reducible refine then_exit ?_ | with_reducible refine then_normal ?_ | with_reducible refine inBlock_eq ?_ | with_reducible refine inBlock_ne rfl ?_ | with_reducible refine inBlock_normal ?_ | (refine wpList_load_if rfl 107 _ rfl b rfl 107 _ (0, 0) _ H2.room Tryz.underlying107 rfl (by kernel_rfl) ?_; simp only [Act.put, List.setIfInBounds_toArray, List.set_cons_succ, List.set_cons_zero]) | (refine wpList_load_if rfl 47 _ rfl w.heap.size rfl 47 _ (0, 0) _ H2.box Tryz.underlying47 rfl (by kernel_rfl) ?_; simp only [Act.put, List.setIfInBounds_toArray, List.set_cons_succ, List.set_cons_zero]) | (go_at_call 93; refine (numbers_r i _).mono ?_; rw [hN]; rintro e w3 ⟨rfl, hb3⟩; replace H2 := H2.grow hb3; clear hb3; dsimp only) | (go_at_call 94; refine (signs_r i _).mono ?_; rintro e w3 ⟨rfl, hb3⟩; replace H2 := H2.grow hb3; clear hb3; dsimp only) | (go_at_call 95; refine (rightSys_c i _).mono ?_; rintro e w3 ⟨rfl, hb3⟩; replace H2 := H2.grow hb3; clear hb3; dsimp only) | (go_at_call 96; refine (rightForm_c i _).mono ?_; rintro e w3 ⟨rfl, hb3⟩; replace H2 := H2.grow hb3; clear hb3; dsimp only) | go_step)
        go_ret
        exact ⟨ret_bool (by rw [hR.out, hN]; rfl), H2.below⟩
      | true =>
        cases hS : signsB i with
        | false =>
          repeat' (first | with_reducible refine then_exit ?_ | with_reducible refine then_normal ?_ | with_reducible refine inBlock_eq ?_ | with_reducible refine inBlock_ne rfl ?_ | with_reducible refine inBlock_normal ?_ | (refine wpList_load_if rfl 107 _ rfl b rfl 107 _ (0, 0) _ H2.room Tryz.underlying107 rfl (by kernel_rfl) ?_; simp only [Act.put, List.setIfInBounds_toArray, List.set_cons_succ, List.set_cons_zero]) | (refine wpList_load_if rfl 47 _ rfl w.heap.size rfl 47 _ (0, 0) _ H2.box Tryz.underlying47 rfl (by kernel_rfl) ?_; simp only [Act.put, List.setIfInBounds_toArray, List.set_cons_succ, List.set_cons_zero]) | (go_at_call 93; refine (numbers_r i _).mono ?_; rw [hN]; rintro e w3 ⟨rfl, hb3⟩; replace H2 := H2.grow hb3; clear hb3; dsimp only) | (go_at_call 94; refine (signs_r i _).mono ?_; rw [hS]; rintro e w3 ⟨rfl, hb3⟩; replace H2 := H2.grow hb3; clear hb3; dsimp only) | (go_at_call 95; refine (rightSys_c i _).mono ?_; rintro e w3 ⟨rfl, hb3⟩; replace H2 := H2.grow hb3; clear hb3; dsimp only) | (go_at_call 96; refine (rightForm_c i _).mono ?_; rintro e w3 ⟨rfl, hb3⟩; replace H2 := H2.grow hb3; clear hb3; dsimp only) | go_step)
          go_ret
          exact ⟨ret_bool (by rw [hR.out, hN, hS]; rfl), H2.below⟩
        | true =>
          cases hY : rightSysB i.op i.sys with
          | false =>
            repeat' (first | with_reducible refine then_exit ?_ | with_reducible refine then_normal ?_ | with_reducible refine inBlock_eq ?_ | with_reducible refine inBlock_ne rfl ?_ | with_reducible refine inBlock_normal ?_ | (refine wpList_load_if rfl 107 _ rfl b rfl 107 _ (0, 0) _ H2.room Tryz.underlying107 rfl (by kernel_rfl) ?_; simp only [Act.put, List.setIfInBounds_toArray, List.set_cons_succ, List.set_cons_zero]) | (refine wpList_load_if rfl 47 _ rfl w.heap.size rfl 47 _ (0, 0) _ H2.box Tryz.underlying47 rfl (by kernel_rfl) ?_; simp only [Act.put, List.setIfInBounds_toArray, List.set_cons_succ, List.set_cons_zero]) | (go_at_call 93; refine (numbers_r i _).mono ?_; rw [hN]; rintro e w3 ⟨rfl, hb3⟩; replace H2 := H2.grow hb3; clear hb3; dsimp only) | (go_at_call 94; refine (signs_r i _).mono ?_; rw [hS]; rintro e w3 ⟨rfl, hb3⟩; replace H2 := H2.grow hb3; clear hb3; dsimp only) | (go_at_call 95; refine (rightSys_c i _).mono ?_; rw [hY]; rintro e w3 ⟨rfl, hb3⟩; replace H2 := H2.grow hb3; clear hb3; dsimp only) | (go_at_call 96; refine (rightForm_c i _).mono ?_; rintro e w3 ⟨rfl, hb3⟩; replace H2 := H2.grow hb3; clear hb3; dsimp only) | go_step)
            go_ret
            exact ⟨ret_bool (by rw [hR.out, hN, hS, hY]; rfl), H2.below⟩
          | true =>
            repeat' (first | with_reducible refine then_exit ?_ | with_reducible refine then_normal ?_ | with_reducible refine inBlock_eq ?_ | with_reducible refine inBlock_ne rfl ?_ | with_reducible refine inBlock_normal ?_ | (refine wpList_load_if rfl 107 _ rfl b rfl 107 _ (0, 0) _ H2.room Tryz.underlying107 rfl (by kernel_rfl) ?_; simp only [Act.put, List.setIfInBounds_toArray, List.set_cons_succ, List.set_cons_zero]) | (refine wpList_load_if rfl 47 _ rfl w.heap.size rfl 47 _ (0, 0) _ H2.box Tryz.underlying47 rfl (by kernel_rfl) ?_; simp only [Act.put, List.setIfInBounds_toArray, List.set_cons_succ, List.set_cons_zero]) | (go_at_call 93; refine (numbers_r i _).mono ?_; rw [hN]; rintro e w3 ⟨rfl, hb3⟩; replace H2 := H2.grow hb3; clear hb3; dsimp only) | (go_at_call 94; refine (signs_r i _).mono ?_; rw [hS]; rintro e w3 ⟨rfl, hb3⟩; replace H2 := H2.grow hb3; clear hb3; dsimp only) | (go_at_call 95; refine (rightSys_c i _).mono ?_; rw [hY]; rintro e w3 ⟨rfl, hb3⟩; replace H2 := H2.grow hb3; clear hb3; dsimp only) | (go_at_call 96; refine (rightForm_c i _).mono ?_; rintro e w3 ⟨rfl, hb3⟩; replace H2 := H2.grow hb3; clear hb3; dsimp only) | go_step)
            go_ret
            exact ⟨ret_bool (by rw [hR.out, hN, hS, hY]; rfl), H2.below⟩
    · have hR : Hid (rightB i = false) := by show _ = _; unfold rightB; simp [hb]
      have hb : 37 < i.op := by omega
      go_enter Tryz.func37, Tryz.ntmps37
      go_wp2
      go_ret
      exact ⟨ret_bool hR.out.symm, below_alloc _ _⟩
  · have hR : Hid (rightB i = false) := by show _ = _; unfold rightB; simp [ha]
    have ha : i.op < 1 := by omega
    go_enter Tryz.func37, Tryz.ntmps37
    go_wp2
    go_ret
    exact ⟨ret_bool hR.out.symm, below_alloc _ _⟩
end Go.Proofs.YtbjcdpmhmebjnaaGreat
/- Every form of the table is a good one; where it lies; what Decode and Encode answer: plain. -/
namespace Go.Proofs.YtbjcdpmhmebjnaaGreat
open Go.RowKit

structure Good (F : Fm) : Prop where
  fc : FC F.f F.t
  ok : OkT F.t
  enters : ∀ (args : Array Value) (w : World), (callFunc F.f args).run Tryz.prog w = .ok (.enter F.f args) w
  op : I64 F.op
  sub : I64 F.sub
  mask : W32 F.mask
  base : W32 F.base
theorem good0 : Good fm0 := ⟨addImm_c, addImm_ok, enters Tryz.func64 (by kernel_rfl) (by kernel_rfl), ⟨by decide, by decide⟩, ⟨by decide, by decide⟩, ⟨by decide, by decide⟩, ⟨by decide, by decide⟩⟩
theorem good1 : Good fm1 := ⟨addReg_c, addReg_ok, enters Tryz.func65 (by kernel_rfl) (by kernel_rfl), ⟨by decide, by decide⟩, ⟨by decide, by decide⟩, ⟨by decide, by decide⟩, ⟨by decide, by decide⟩⟩
theorem good2 : Good fm2 := ⟨logReg_c, logReg_ok, enters Tryz.func66 (by kernel_rfl) (by kernel_rfl), ⟨by decide, by decide⟩, ⟨by decide, by decide⟩, ⟨by decide, by decide⟩, ⟨by decide, by decide⟩⟩
theorem good3 : Good fm3 := ⟨logImm_c, logImm_ok, enters Tryz.func67 (by kernel_rfl) (by kernel_rfl), ⟨by decide, by decide⟩, ⟨by decide, by decide⟩, ⟨by decide, by decide⟩, ⟨by decide, by decide⟩⟩
theorem good4 : Good fm4 := ⟨movWide_c, movWide_ok, enters Tryz.func68 (by kernel_rfl) (by kernel_rfl), ⟨by decide, by decide⟩, ⟨by decide, by decide⟩, ⟨by decide, by decide⟩, ⟨by decide, by decide⟩⟩
theorem good5 : Good fm5 := ⟨bitfield_c, bitfield_ok, enters Tryz.func69 (by kernel_rfl) (by kernel_rfl), ⟨by decide, by decide⟩, ⟨by decide, by decide⟩, ⟨by decide, by decide⟩, ⟨by decide, by decide⟩⟩
theorem good6 : Good fm6 := ⟨shiftReg_c, shiftReg_ok, enters Tryz.func70 (by kernel_rfl) (by kernel_rfl), ⟨by decide, by decide⟩, ⟨by decide, by decide⟩, ⟨by decide, by decide⟩, ⟨by decide, by decide⟩⟩
theorem good7 : Good fm7 := ⟨mul_c, mul_ok, enters Tryz.func71 (by kernel_rfl) (by kernel_rfl), ⟨by decide, by decide⟩, ⟨by decide, by decide⟩, ⟨by decide, by decide⟩, ⟨by decide, by decide⟩⟩
theorem good8 : Good fm8 := ⟨div_c, div_ok, enters Tryz.func72 (by kernel_rfl) (by kernel_rfl), ⟨by decide, by decide⟩, ⟨by decide, by decide⟩, ⟨by decide, by decide⟩, ⟨by decide, by decide⟩⟩
theorem good9 : Good fm9 := ⟨sel_c, sel_ok, enters Tryz.func73 (by kernel_rfl) (by kernel_rfl), ⟨by decide, by decide⟩, ⟨by decide, by decide⟩, ⟨by decide, by decide⟩, ⟨by decide, by decide⟩⟩
theorem good10 : Good fm10 := ⟨adr_c, adr_ok, enters Tryz.func74 (by kernel_rfl) (by kernel_rfl), ⟨by decide, by decide⟩, ⟨by decide, by decide⟩, ⟨by decide, by decide⟩, ⟨by decide, by decide⟩⟩
theorem good11 : Good fm11 := ⟨b_c, b_ok, enters Tryz.func75 (by kernel_rfl) (by kernel_rfl), ⟨by decide, by decide⟩, ⟨by decide, by decide⟩, ⟨by decide, by decide⟩, ⟨by decide, by decide⟩⟩
theorem good12 : Good fm12 := ⟨bCond_c, bCond_ok, enters Tryz.func76 (by kernel_rfl) (by kernel_rfl), ⟨by decide, by decide⟩, ⟨by decide, by decide⟩, ⟨by decide, by decide⟩, ⟨by decide, by decide⟩⟩
theorem good13 : Good fm13 := ⟨cbz_c, cbz_ok, enters Tryz.func77 (by kernel_rfl) (by kernel_rfl), ⟨by decide, by decide⟩, ⟨by decide, by decide⟩, ⟨by decide, by decide⟩, ⟨by decide, by decide⟩⟩
theorem good14 : Good fm14 := ⟨tbz_c, tbz_ok, enters Tryz.func78 (by kernel_rfl) (by kernel_rfl), ⟨by decide, by decide⟩, ⟨by decide, by decide⟩, ⟨by decide, by decide⟩, ⟨by decide, by decide⟩⟩
theorem good15 : Good fm15 := ⟨br_c, br_ok, enters Tryz.func79 (by kernel_rfl) (by kernel_rfl), ⟨by decide, by decide⟩, ⟨by decide, by decide⟩, ⟨by decide, by decide⟩, ⟨by decide, by decide⟩⟩
theorem good16 : Good fm16 := ⟨atImm_c, atImm_ok, enters Tryz.func80 (by kernel_rfl) (by kernel_rfl), ⟨by decide, by decide⟩, ⟨by decide, by decide⟩, ⟨by decide, by decide⟩, ⟨by decide, by decide⟩⟩
theorem good17 : Good fm17 := ⟨atImm_c, atImm_ok, enters Tryz.func80 (by kernel_rfl) (by kernel_rfl), ⟨by decide, by decide⟩, ⟨by decide, by decide⟩, ⟨by decide, by decide⟩, ⟨by decide, by decide⟩⟩
theorem good18 : Good fm18 := ⟨atReg_c, atReg_ok, enters Tryz.func81 (by kernel_rfl) (by kernel_rfl), ⟨by decide, by decide⟩, ⟨by decide, by decide⟩, ⟨by decide, by decide⟩, ⟨by decide, by decide⟩⟩
theorem good19 : Good fm19 := ⟨atReg_c, atReg_ok, enters Tryz.func81 (by kernel_rfl) (by kernel_rfl), ⟨by decide, by decide⟩, ⟨by decide, by decide⟩, ⟨by decide, by decide⟩, ⟨by decide, by decide⟩⟩
theorem good20 : Good fm20 := ⟨rdRn_c, rdRn_ok, enters Tryz.func82 (by kernel_rfl) (by kernel_rfl), ⟨by decide, by decide⟩, ⟨by decide, by decide⟩, ⟨by decide, by decide⟩, ⟨by decide, by decide⟩⟩
theorem good21 : Good fm21 := ⟨rdRn_c, rdRn_ok, enters Tryz.func82 (by kernel_rfl) (by kernel_rfl), ⟨by decide, by decide⟩, ⟨by decide, by decide⟩, ⟨by decide, by decide⟩, ⟨by decide, by decide⟩⟩
theorem good22 : Good fm22 := ⟨rdRn_c, rdRn_ok, enters Tryz.func82 (by kernel_rfl) (by kernel_rfl), ⟨by decide, by decide⟩, ⟨by decide, by decide⟩, ⟨by decide, by decide⟩, ⟨by decide, by decide⟩⟩
theorem good23 : Good fm23 := ⟨ldxr_c, ldxr_ok, enters Tryz.func83 (by kernel_rfl) (by kernel_rfl), ⟨by decide, by decide⟩, ⟨by decide, by decide⟩, ⟨by decide, by decide⟩, ⟨by decide, by decide⟩⟩
theorem good24 : Good fm24 := ⟨stxr_c, stxr_ok, enters Tryz.func84 (by kernel_rfl) (by kernel_rfl), ⟨by decide, by decide⟩, ⟨by decide, by decide⟩, ⟨by decide, by decide⟩, ⟨by decide, by decide⟩⟩
theorem good25 : Good fm25 := ⟨nothing_c, nothing_ok, enters Tryz.func85 (by kernel_rfl) (by kernel_rfl), ⟨by decide, by decide⟩, ⟨by decide, by decide⟩, ⟨by decide, by decide⟩, ⟨by decide, by decide⟩⟩
theorem good26 : Good fm26 := ⟨dmb_c, dmb_ok, enters Tryz.func86 (by kernel_rfl) (by kernel_rfl), ⟨by decide, by decide⟩, ⟨by decide, by decide⟩, ⟨by decide, by decide⟩, ⟨by decide, by decide⟩⟩
theorem good27 : Good fm27 := ⟨dmb_c, dmb_ok, enters Tryz.func86 (by kernel_rfl) (by kernel_rfl), ⟨by decide, by decide⟩, ⟨by decide, by decide⟩, ⟨by decide, by decide⟩, ⟨by decide, by decide⟩⟩
theorem good28 : Good fm28 := ⟨nothing_c, nothing_ok, enters Tryz.func85 (by kernel_rfl) (by kernel_rfl), ⟨by decide, by decide⟩, ⟨by decide, by decide⟩, ⟨by decide, by decide⟩, ⟨by decide, by decide⟩⟩
theorem good29 : Good fm29 := ⟨rd_c, rd_ok, enters Tryz.func87 (by kernel_rfl) (by kernel_rfl), ⟨by decide, by decide⟩, ⟨by decide, by decide⟩, ⟨by decide, by decide⟩, ⟨by decide, by decide⟩⟩
theorem good30 : Good fm30 := ⟨rd_c, rd_ok, enters Tryz.func87 (by kernel_rfl) (by kernel_rfl), ⟨by decide, by decide⟩, ⟨by decide, by decide⟩, ⟨by decide, by decide⟩, ⟨by decide, by decide⟩⟩
theorem good31 : Good fm31 := ⟨nothing_c, nothing_ok, enters Tryz.func85 (by kernel_rfl) (by kernel_rfl), ⟨by decide, by decide⟩, ⟨by decide, by decide⟩, ⟨by decide, by decide⟩, ⟨by decide, by decide⟩⟩
theorem good32 : Good fm32 := ⟨system_c, system_ok, enters Tryz.func88 (by kernel_rfl) (by kernel_rfl), ⟨by decide, by decide⟩, ⟨by decide, by decide⟩, ⟨by decide, by decide⟩, ⟨by decide, by decide⟩⟩
theorem good33 : Good fm33 := ⟨system_c, system_ok, enters Tryz.func88 (by kernel_rfl) (by kernel_rfl), ⟨by decide, by decide⟩, ⟨by decide, by decide⟩, ⟨by decide, by decide⟩, ⟨by decide, by decide⟩⟩
theorem good34 : Good fm34 := ⟨msrMask_c, msrMask_ok, enters Tryz.func89 (by kernel_rfl) (by kernel_rfl), ⟨by decide, by decide⟩, ⟨by decide, by decide⟩, ⟨by decide, by decide⟩, ⟨by decide, by decide⟩⟩
theorem good35 : Good fm35 := ⟨msrMask_c, msrMask_ok, enters Tryz.func89 (by kernel_rfl) (by kernel_rfl), ⟨by decide, by decide⟩, ⟨by decide, by decide⟩, ⟨by decide, by decide⟩, ⟨by decide, by decide⟩⟩
theorem good36 : Good fm36 := ⟨call_c, call_ok, enters Tryz.func90 (by kernel_rfl) (by kernel_rfl), ⟨by decide, by decide⟩, ⟨by decide, by decide⟩, ⟨by decide, by decide⟩, ⟨by decide, by decide⟩⟩
theorem good37 : Good fm37 := ⟨call_c, call_ok, enters Tryz.func90 (by kernel_rfl) (by kernel_rfl), ⟨by decide, by decide⟩, ⟨by decide, by decide⟩, ⟨by decide, by decide⟩, ⟨by decide, by decide⟩⟩
theorem good38 : Good fm38 := ⟨nothing_c, nothing_ok, enters Tryz.func85 (by kernel_rfl) (by kernel_rfl), ⟨by decide, by decide⟩, ⟨by decide, by decide⟩, ⟨by decide, by decide⟩, ⟨by decide, by decide⟩⟩
theorem good39 : Good fm39 := ⟨hint_c, hint_ok, enters Tryz.func91 (by kernel_rfl) (by kernel_rfl), ⟨by decide, by decide⟩, ⟨by decide, by decide⟩, ⟨by decide, by decide⟩, ⟨by decide, by decide⟩⟩
theorem good_all : ∀ F ∈ forms, Good F := by
  intro F h
  simp only [forms, formsA, formsB, List.cons_append, List.nil_append, List.mem_cons, List.not_mem_nil, or_false] at h
  rcases h with rfl | rfl | rfl | rfl | rfl | rfl | rfl | rfl | rfl | rfl | rfl | rfl | rfl | rfl | rfl | rfl | rfl | rfl | rfl | rfl | rfl | rfl | rfl | rfl | rfl | rfl | rfl | rfl | rfl | rfl | rfl | rfl | rfl | rfl | rfl | rfl | rfl | rfl | rfl | rfl
  · exact good0
  · exact good1
  · exact good2
  · exact good3
  · exact good4
  · exact good5
  · exact good6
  · exact good7
  · exact good8
  · exact good9
  · exact good10
  · exact good11
  · exact good12
  · exact good13
  · exact good14
  · exact good15
  · exact good16
  · exact good17
  · exact good18
  · exact good19
  · exact good20
  · exact good21
  · exact good22
  · exact good23
  · exact good24
  · exact good25
  · exact good26
  · exact good27
  · exact good28
  · exact good29
  · exact good30
  · exact good31
  · exact good32
  · exact good33
  · exact good34
  · exact good35
  · exact good36
  · exact good37
  · exact good38
  · exact good39
theorem flat_at : ∀ (l : List Fm) (k j : Nat) (F : Fm), l[k]? = some F → j < 5 → (l.flatMap Fm.cells)[5 * k + j]? = F.cells[j]?
  | [], _, _, _, h, _ => by simp at h
  | G :: l, 0, j, F, h, hj => by
    obtain rfl : G = F := by simpa using h
    rw [List.flatMap_cons, Nat.mul_zero, Nat.zero_add, List.getElem?_append_left (show j < G.cells.length from hj)]
  | G :: l, k + 1, j, F, h, hj => by
    have e : 5 * (k + 1) + j = G.cells.length + (5 * k + j) := by show _ = 5 + _; omega
    rw [List.flatMap_cons, e, List.getElem?_append_right (by omega), Nat.add_sub_cancel_left]
    exact flat_at l k j F (by simpa using h) hj
theorem fm_at {g : Nat} {w : World} {k : Nat} {F : Fm} (h : w.heap[g]? = some (.cells formCells.toArray 76)) (hk : forms[k]? = some F) : FmAt F g (k * 5) w := by
  rw [Nat.mul_comm]
  have e : ∀ j v, j < 5 → F.cells[j]? = some v → w.cell? ⟨g, 5 * k + j, none⟩ = some v := fun j v hj hv => by
    rw [cell_of_row _ _ _ _ _ _ h, List.getElem?_toArray]
    exact (flat_at forms k j F hk hj).trans hv
  exact ⟨e 0 _ (by decide) rfl, e 1 _ (by decide) rfl, e 2 _ (by decide) rfl, e 3 _ (by decide) rfl, e 4 _ (by decide) rfl⟩
theorem forms_count : forms.length = 40 := rfl
/-- What Decode answers, from a rest of the table. -/
def decL (word : Int) : List Fm → Ins
  | [] => nilI
  | F :: l => if bits .and .u32 word F.mask = F.base ∧ rightB (F.t false (word, startI F)).2 = true then (F.t false (word, startI F)).2 else decL word l
def decV (word : Int) : Ins := decL word forms
/-- What Encode answers, from a rest of the table: the word and the error. -/
def encL (i : Ins) : List Fm → Int × Int
  | [] => (0, 3)
  | F :: l => if isForm F i = true then ((F.t true (F.base, i)).1, 0) else encL i l
def encV (i : Ins) : Int × Int := if rightB i = true then encL i forms else (0, 3)
theorem drop_at {k : Nat} (hk : k < 40) : ∃ F, forms[k]? = some F ∧ Good F ∧ forms.drop k = F :: forms.drop (k + 1) := by
  have h : k < forms.length := hk
  exact ⟨forms[k], List.getElem?_eq_getElem h, good_all _ (List.getElem_mem h), List.drop_eq_getElem_cons h⟩
end Go.Proofs.YtbjcdpmhmebjnaaGreat
/- What Decode answers, for every word: its contract. -/
namespace Go.Proofs.YtbjcdpmhmebjnaaGreat
open Go.RowKit
set_option linter.unusedVariables false

theorem Ins.oneC (i : Ins) : i.cells.all (·.oneCell') = true := i.one
theorem Ins.infoC (i : Ins) : (Tryz.prog.info? 47).map (·.size) = some i.cells.size := info25
/-- The result's box and the table. -/
structure Dc (g : Nat) (w0 w : World) : Prop where
  below : Below w0.heap.size w0 w
  res : ∃ Z, w.heap[w0.heap.size]? = some (.cells Z 47) ∧ Z.size = 16
  tab : w.heap[g]? = some (.cells formCells.toArray 76)
  up : w0.heap.size < g
theorem Dc.grow {g : Nat} {w0 w w' : World} (h : Dc g w0 w) (hb : Below w.heap.size w w') : Dc g w0 w' := by
  obtain ⟨Z, hz, hs⟩ := h.res
  exact ⟨h.below.trans (hb.mono h.below.size), ⟨Z, by rw [hb.block _ (Array.getElem?_eq_some_iff.1 hz).1]; exact hz, hs⟩, by rw [hb.block _ (Array.getElem?_eq_some_iff.1 h.tab).1]; exact h.tab, h.up⟩
theorem dc_start {w w1 : World} {Z : Array Value} (hZ : Z.size = 16) (h : Below (w.alloc (.cells Z 47)).heap.size (w.alloc (.cells Z 47)) w1) : Dc w1.heap.size w ((w1.alloc (.cells Tryz.zeroCells76 76)).setRow w1.heap.size formCells.toArray) := by
  have hs : w.heap.size < (w.alloc (.cells Z 47)).heap.size := (Array.getElem?_eq_some_iff.1 (heap_alloc_new w (.cells Z 47))).1
  have hs1 : w.heap.size < w1.heap.size := Nat.lt_of_lt_of_le hs h.size
  refine ⟨?_, ⟨Z, ?_, hZ⟩, setRow_heap _ _ _ _ _ _ (heap_alloc_new _ _), hs1⟩
  · exact Go.Proofs.YtbjcdpmhmebjnaaGreat.below_setRow (below_more ((Go.Proofs.YtbjcdpmhmebjnaaGreat.below_alloc w _).trans (h.mono (Nat.le_of_lt hs)))) (Nat.le_of_lt hs1)
  · rw [setRow_other _ _ _ _ (by omega), Below.heap_alloc _ _ _ hs1, h.block _ hs]
    exact heap_alloc_new _ _
set_option maxRecDepth 4000 in
set_option maxHeartbeats 4000000 in
theorem decode_c (word : Int) (hW : W32 word) (w : World) :
    Calls Tryz.prog 15 #[.int .u32 word] w fun e w' => e = .returned (decV word).val ∧ Below w.heap.size w w' := by
  go_enter Tryz.func15, Tryz.ntmps15
  go_upto_region 2 with (first | (go_at_call 35; refine (allForms_c _).mono ?_; rintro e w1 ⟨rfl, H1⟩; dsimp only) | ((with_reducible refine wpList_store_row rfl 76 _ _ rfl _ formCells.toArray rfl rfl 76 Tryz.zeroCells76 (heap_alloc_new _ _) info40 (by kernel_rfl) forms_one ?_)))
  have H := dc_start rfl H1
  clear H1
  generalize (w1.alloc (Obj.cells Tryz.zeroCells76 76)).setRow w1.heap.size formCells.toArray = w2 at H ⊢
  generalize w1.heap.size = g at H ⊢
  clear w1
  go_wp2
  go_loopw [8] (fun s8 wr => ∃ k : Nat, k ≤ 40 ∧ s8 = .int .i64 k ∧ Hid (Dc g w wr) ∧ Hid (decL word (forms.drop k) = decV word)) (fun s8 _ => 40 - (intOf s8).toNat)
  case atStart => exact ⟨0, by omega, rfl, H, rfl⟩
  case round =>
    clear H
    obtain ⟨k, hk, rfl, H, hD⟩ := hrel
    by_cases hlt : k < 40
    · have hl2 : (k : Int) < 40 := by omega
      obtain ⟨F, hF, G, hd⟩ := drop_at hlt
      have hD : Hid (decL word (F :: forms.drop (k + 1)) = decV word) := by rw [← hd]; exact hD.out
      have hd : True := trivial
      have hat := fm_at H.out.tab hF
      go_upto_region 6 with fail
      have c2 := hat.c2
      have c3 := hat.c3
      by_cases e1 : bits .and .u32 word F.mask = F.base
      · have d1 : (bits .and .u32 word F.mask != F.base) = false := by simpa using e1
        go_quiet (fail)
        replace H := H.out.grow (below_drewN (Below.refl _ _) nq)
        replace hat := fm_at H.tab hF
        clear c2 c3
        generalize wr.drewN nq = w3 at H hat ⊢
        have hI : Hid (decL word (F :: forms.drop (k + 1)) = if rightB (F.t false (word, startI F)).2 = true then (F.t false (word, startI F)).2 else decL word (forms.drop (k + 1))) := by
          show _ = _
          rw [decL]
          simp only [e1, true_and]
        have hA := apart_c F G.fc G.enters g (k * 5) word hW G.sub w3 hat
        generalize (F.t false (word, startI F)).2 = I at hI hA
        go_upto_region 8 with (first | (go_at_call 36; refine hA.mono ?_; rintro e w4 ⟨rfl, hb⟩; have H4 := H.grow hb; replace H := H4; clear hb; dsimp only) | (((with_reducible refine wpList_store_row rfl 47 _ _ rfl _ I.cells rfl ?_ 47 _ (heap_alloc_new _ _) I.infoC ?_ I.oneC ?_); (focus rfl); (focus rfl); (simp only [Act.put]))))
        have BX := setRow_heap (w4.alloc _) w4.heap.size _ I.cells 47 (0, 0) (heap_alloc_new w4 (.cells #[.int .i64 0, .int .i64 0, .int .i64 0, .int .i64 0, .int .i64 0, .int .i64 0, .int .i64 0, .int .i64 0, .int .i64 0, .int .i64 0, .int .i64 0, .int .i64 0, .bool false, .bool false, .bool false, .bool false] 47))
        replace H := H.grow (Go.Proofs.YtbjcdpmhmebjnaaGreat.below_setRow (cs := I.cells) (Go.Proofs.YtbjcdpmhmebjnaaGreat.below_alloc w4 (.cells #[.int .i64 0, .int .i64 0, .int .i64 0, .int .i64 0, .int .i64 0, .int .i64 0, .int .i64 0, .int .i64 0, .int .i64 0, .int .i64 0, .int .i64 0, .int .i64 0, .bool false, .bool false, .bool false, .bool false] 47)) (Nat.le_refl _))
        have hb : w.heap.size < w4.heap.size := Nat.lt_of_lt_of_le H4.up (Nat.le_of_lt (Array.getElem?_eq_some_iff.1 H4.tab).1)
        generalize World.setRow _ _ _ = w5 at H BX ⊢
        generalize w4.heap.size = b at hb BX ⊢
        cases hR : rightB I with
        | true =>
          go_upto_region 9 with (first | (go_at_call 37; refine (right_c I _).mono ?_; rw [hR]; rintro e w6 ⟨rfl, hb⟩; replace H := H.grow hb; replace BX : w6.heap[b]? = some (.cells I.cells 47) := (hb.block b (Array.getElem?_eq_some_iff.1 BX).1).trans BX; clear hb; dsimp only) | ((with_reducible refine wpList_load_if rfl 47 _ rfl b rfl 47 _ (0, 0) _ BX Tryz.underlying47 rfl I.infoC ?_); simp only [Act.put, List.setIfInBounds_toArray, List.set_cons_succ, List.set_cons_zero]))
          obtain ⟨Z, hz, hZ⟩ := H.res
          have hV : decV word = I := by rw [← hD.out, hI.out, if_pos hR]
          go_wp2_with (first | ((with_reducible refine wpList_load_if rfl 47 _ rfl b rfl 47 _ (0, 0) _ BX Tryz.underlying47 rfl I.infoC ?_); simp only [Act.put, List.setIfInBounds_toArray, List.set_cons_succ, List.set_cons_zero]) | (((with_reducible refine wpList_store_row rfl 47 _ _ rfl w.heap.size I.cells rfl ?_ 47 _ hz I.infoC ?_ I.oneC ?_); (focus rfl); (focus (rw [hZ]; rfl)); (simp only [Act.put]))))
          refine bodyPost_ret (results_cell_row rfl _ _ _ 47 _ (0, 0) _ rfl (setRow_heap _ _ _ _ _ _ hz) Tryz.underlying47 rfl I.infoC) rfl ?_
          exact ⟨by rw [hV], Go.Proofs.YtbjcdpmhmebjnaaGreat.below_setRow H.below (Nat.le_refl _)⟩
        | false =>
          have hV : decL word (forms.drop (k + 1)) = decV word := by rw [← hD.out, hI.out, if_neg (by rw [hR]; decide)]
          go_wp2_with (first | (go_at_call 37; refine (right_c I _).mono ?_; rw [hR]; rintro e w6 ⟨rfl, hb⟩; replace H := H.grow hb; replace BX : w6.heap[b]? = some (.cells I.cells 47) := (hb.block b (Array.getElem?_eq_some_iff.1 BX).1).trans BX; clear hb; dsimp only) | ((with_reducible refine wpList_load_if rfl 47 _ rfl b rfl 47 _ (0, 0) _ BX Tryz.underlying47 rfl I.infoC ?_); simp only [Act.put, List.setIfInBounds_toArray, List.set_cons_succ, List.set_cons_zero]))
          go_roundw
          case rel => exact ⟨k + 1, by omega, by go_num, H, hV⟩
          case measure => simp [intOf]; omega
      · have d1 : (bits .and .u32 word F.mask != F.base) = true := by simpa using e1
        go_quiet (fail)
        go_wp2
        go_roundw
        case rel => exact ⟨k + 1, by omega, by go_num, H.out.grow (below_drewN (Below.refl _ _) _), by rw [← hD.out]; show _ = _; rw [decL, if_neg (fun h => e1 h.1)]⟩
        case measure => simp [intOf]; omega
    · obtain rfl : k = 40 := by omega
      have hD : decV word = nilI := hD.out.symm
      obtain ⟨Z, hz, hZ⟩ := H.out.res
      have HB := H.out.below
      go_upto_region 11 with fail
      refine wp_region_lit ?_
      with_reducible refine wpList_built rfl 47 _ rfl nilI.cells (by kernel_rfl) ?_
      simp only [Act.put, List.setIfInBounds_toArray, List.set_cons_succ, List.set_cons_zero]
      with_reducible refine wpList_store_row rfl 47 _ _ rfl w.heap.size nilI.cells rfl rfl 47 Z hz nilI.infoC ?_ nilI.oneC ?_
      focus (rw [hZ]; rfl)
      go_wp2
      refine bodyPost_ret (results_cell_row rfl _ _ _ 47 _ (0, 0) _ rfl (setRow_heap _ _ _ _ _ _ hz) Tryz.underlying47 rfl nilI.infoC) rfl ?_
      exact ⟨by rw [hD], Go.Proofs.YtbjcdpmhmebjnaaGreat.below_setRow HB (Nat.le_refl _)⟩
end Go.Proofs.YtbjcdpmhmebjnaaGreat
/- Words that are laid together of fields, bit by bit: plain. -/
namespace Go.Proofs.YtbjcdpmhmebjnaaGreat
open Go.RowKit

def fld (W a m : Nat) : Nat := W / 2 ^ a % 2 ^ m
theorem testBit_fld (W a m k : Nat) : (fld W a m).testBit k = (decide (k < m) && W.testBit (k + a)) := by
  unfold fld
  rw [Nat.testBit_mod_two_pow, Nat.testBit_div_two_pow]
theorem fld_lt (W a m : Nat) : fld W a m < 2 ^ m := Nat.mod_lt _ (Nat.two_pow_pos m)
def inR (a m i : Nat) : Bool := decide (a ≤ i) && decide (i < a + m)
def putN (W a m v : Nat) : Nat := orBits (fun i => if a ≤ i ∧ i < a + m then v.testBit (i - a) else W.testBit i) 32
theorem putN_in {W a m v i : Nat} (h : i < 32) (h1 : a ≤ i) (h2 : i < a + m) : (putN W a m v).testBit i = v.testBit (i - a) := by
  unfold putN; rw [testBit_orBits]; simp [h, h1, h2]
theorem putN_out {W a m v i : Nat} (h : i < 32) (h1 : ¬ (a ≤ i ∧ i < a + m)) : (putN W a m v).testBit i = W.testBit i := by
  unfold putN; rw [testBit_orBits]; simp only [h, decide_true, Bool.true_and]; rw [if_neg h1]
theorem putN_lt (W a m v : Nat) : putN W a m v < 4294967296 := orBits_lt _ 32

/-- A number laid at a place: the place, how many bits, the number. -/
structure Cr where
  a : Nat
  m : Nat
  v : Nat
def lays (W : Nat) : List Cr → Nat
  | [] => W
  | c :: l => lays (putN W c.a c.m c.v) l
theorem lays_append (W : Nat) (l l' : List Cr) : lays W (l ++ l') = lays (lays W l) l' := by
  induction l generalizing W with
  | nil => rfl
  | cons c l ih => exact ih _
theorem lays_out {i : Nat} (h : i < 32) : ∀ (l : List Cr) (W : Nat), (∀ c ∈ l, ¬ (c.a ≤ i ∧ i < c.a + c.m)) → (lays W l).testBit i = W.testBit i
  | [], _, _ => rfl
  | c :: l, W, hl => by
    show (lays (putN W c.a c.m c.v) l).testBit i = _
    rw [lays_out h l _ (fun d hd => hl d (by simp [hd])), putN_out h (hl c (by simp))]
theorem lays_lt {W : Nat} (hW : W < 4294967296) : ∀ l : List Cr, ∀ {W : Nat}, W < 4294967296 → lays W l < 4294967296
  | [], _, h => h
  | _ :: l, _, _ => lays_lt hW l (putN_lt _ _ _ _)
/-- The places of a list part, and lie within a word. -/
def apartL : List (Nat × Nat) → Bool
  | [] => true
  | (a, m) :: l => decide (a + m ≤ 32) && (l.all fun x => decide (a + m ≤ x.1) || decide (x.1 + x.2 ≤ a)) && apartL l
theorem apart_cons {a m : Nat} {l : List (Nat × Nat)} (h : apartL ((a, m) :: l) = true) : a + m ≤ 32 ∧ (∀ x ∈ l, a + m ≤ x.1 ∨ x.1 + x.2 ≤ a) ∧ apartL l = true := by
  simp only [apartL, Bool.and_eq_true, decide_eq_true_eq, List.all_eq_true, Bool.or_eq_true] at h
  exact ⟨h.1.1, h.1.2, h.2⟩
def placesL (l : List Cr) : List (Nat × Nat) := l.map fun c => (c.a, c.m)
theorem lays_in : ∀ (l : List Cr) (W : Nat), apartL (placesL l) = true → ∀ c ∈ l, ∀ i, c.a ≤ i → i < c.a + c.m → (lays W l).testBit i = c.v.testBit (i - c.a)
  | [], _, _, c, hc, _, _, _ => by cases hc
  | d :: l, W, hp, c, hc, i, h1, h2 => by
    obtain ⟨p1, p2, p3⟩ := apart_cons (show apartL ((d.a, d.m) :: placesL l) = true from hp)
    show (lays (putN W d.a d.m d.v) l).testBit i = _
    rcases List.mem_cons.1 hc with rfl | hc
    · have h32 : i < 32 := by omega
      rw [lays_out h32 l _ (fun e he hh => by
        have := p2 (e.a, e.m) (List.mem_map.2 ⟨e, he, rfl⟩)
        simp only at this
        omega), putN_in h32 h1 h2]
    · exact lays_in l _ p3 c hc i h1 h2
theorem fld_lays {l : List Cr} {W : Nat} (hp : apartL (placesL l) = true) {c : Cr} (hc : c ∈ l) (hv : c.v < 2 ^ c.m) : fld (lays W l) c.a c.m = c.v := by
  apply Nat.eq_of_testBit_eq
  intro k
  rw [testBit_fld]
  by_cases hk : k < c.m
  · rw [lays_in l W hp c hc (k + c.a) (by omega) (by omega)]
    simp [hk]
  · have : c.v.testBit k = false := Nat.testBit_lt_two_pow (Nat.lt_of_lt_of_le hv (Nat.pow_le_pow_right Nat.zero_lt_two (by omega)))
    simp [hk, this]
/-- The mask has just the bits that no place has. -/
def coversB (mask : Nat) (l : List (Nat × Nat)) : Bool := (List.range 32).all fun i => mask.testBit i == !(l.any fun x => decide (x.1 ≤ i) && decide (i < x.1 + x.2))
theorem covers_at {mask : Nat} {l : List (Nat × Nat)} (h : coversB mask l = true) {i : Nat} (hi : i < 32) : mask.testBit i = !(l.any fun x => decide (x.1 ≤ i) && decide (i < x.1 + x.2)) := by
  have := List.all_eq_true.1 h i (List.mem_range.2 hi)
  simpa using this
theorem out_of {mask : Nat} {l : List Cr} (h : coversB mask (placesL l) = true) {i : Nat} (hi : i < 32) (hm : mask.testBit i = true) : ∀ c ∈ l, ¬ (c.a ≤ i ∧ i < c.a + c.m) := by
  intro c hc hh
  rw [covers_at h hi] at hm
  have : (placesL l).any (fun x => decide (x.1 ≤ i) && decide (i < x.1 + x.2)) = true := List.any_eq_true.2 ⟨(c.a, c.m), List.mem_map.2 ⟨c, hc, rfl⟩, by simp [hh.1, hh.2]⟩
  rw [this] at hm; cases hm
theorem in_of {mask : Nat} {l : List Cr} (h : coversB mask (placesL l) = true) {i : Nat} (hi : i < 32) (hm : mask.testBit i = false) : ∃ c ∈ l, c.a ≤ i ∧ i < c.a + c.m := by
  rw [covers_at h hi] at hm
  have : (placesL l).any (fun x => decide (x.1 ≤ i) && decide (i < x.1 + x.2)) = true := by simpa using hm
  obtain ⟨x, hx, h1⟩ := List.any_eq_true.1 this
  obtain ⟨c, hc, rfl⟩ := List.mem_map.1 hx
  simp only [Bool.and_eq_true, decide_eq_true_eq] at h1
  exact ⟨c, hc, h1.1, h1.2⟩
theorem bit_high {x i : Nat} (h : x < 4294967296) (hi : ¬ i < 32) : x.testBit i = false :=
  Nat.testBit_lt_two_pow (Nat.lt_of_lt_of_le (show x < 2 ^ 32 from h) (Nat.pow_le_pow_right Nat.zero_lt_two (by omega)))
/-- What is laid matches the mask. -/
theorem lays_mask {mask base : Nat} {l : List Cr} (h : coversB mask (placesL l) = true) (hb : base &&& mask = base) (hm : mask < 4294967296) : lays base l &&& mask = base := by
  apply Nat.eq_of_testBit_eq
  intro i
  rw [Nat.testBit_and]
  by_cases hi : i < 32
  · cases e : mask.testBit i
    · have := congrArg (fun x => x.testBit i) hb
      simp only [Nat.testBit_and, e, Bool.and_false] at this
      simp [← this]
    · rw [lays_out hi l base (out_of h hi e)]; simp
  · have := congrArg (fun x => x.testBit i) hb
    simp only [Nat.testBit_and, bit_high hm hi, Bool.and_false] at this
    simp [bit_high hm hi, ← this]
/-- A word that matches the mask, and has the numbers at their places, is what is laid together of them. -/
theorem lays_back {mask base w : Nat} {l : List Cr} (h : coversB mask (placesL l) = true) (hp : apartL (placesL l) = true) (hw : w < 4294967296) (hbs : base < 4294967296) (hm : w &&& mask = base) (hf : ∀ c ∈ l, fld w c.a c.m = c.v) : lays base l = w := by
  apply Nat.eq_of_testBit_eq
  intro i
  by_cases hi : i < 32
  · cases e : mask.testBit i
    · obtain ⟨c, hc, h1, h2⟩ := in_of h hi e
      rw [lays_in l base hp c hc i h1 h2, ← hf c hc, testBit_fld]
      simp [show i - c.a < c.m by omega, show i - c.a + c.a = i by omega]
    · rw [lays_out hi l base (out_of h hi e), ← hm, Nat.testBit_and, e, Bool.and_true]
  · rw [bit_high hw hi, bit_high (lays_lt hbs l hbs) hi]
end Go.Proofs.YtbjcdpmhmebjnaaGreat
/- Fields as numbers laid into a word and taken from it: plain. -/
namespace Go.Proofs.YtbjcdpmhmebjnaaGreat
open Go.RowKit

def lowN (n : Int) (m : Nat) : Nat := (n % 4294967296).toNat % 2 ^ m
theorem lowN_lt (n : Int) (m : Nat) : lowN n m < 2 ^ m := Nat.mod_lt _ (Nat.two_pow_pos m)
theorem lowN_nat {x m : Nat} (hm : m ≤ 32) (h : x < 2 ^ m) : lowN (x : Int) m = x := by
  have : x < 4294967296 := Nat.lt_of_lt_of_le h (show 2 ^ m ≤ 2 ^ 32 from Nat.pow_le_pow_right (by decide) hm)
  unfold lowN
  rw [show ((x : Int) % 4294967296).toNat = x by omega, Nat.mod_eq_of_lt h]
theorem inWord_yes {a m : Nat} (h1 : 1 ≤ m) (h2 : a + m ≤ 32) : inWordB (a : Int) (m : Int) = true := by
  unfold inWordB; simp only [decide_eq_true_eq]; omega
theorem low_eq (n : Int) {m : Nat} (h1 : 1 ≤ m) (h2 : m ≤ 32) : lowV n m = ((lowN n m : Nat) : Int) := by
  unfold lowV fieldV lowN
  rw [if_pos (show inWordB 0 (m : Int) = true from inWord_yes (a := 0) h1 (by omega))]
  simp
theorem put_eq (W n : Int) {a m : Nat} (h1 : 1 ≤ m) (h2 : a + m ≤ 32) : crossW true W n a m = ((putN W.toNat a m (lowN n m) : Nat) : Int) := by
  show putV W a m (lowV n m) = _
  rw [low_eq n h1 (by omega)]
  have hf : fitsB ((lowN n m : Nat) : Int) m = true := by
    unfold fitsB; simp only [decide_eq_true_eq, Int.toNat_natCast]; exact lowN_lt n m
  unfold putV
  rw [if_pos (by rw [inWord_yes h1 h2, hf]; rfl)]
  rfl
theorem fld_put {W a m v : Nat} (h2 : a + m ≤ 32) (hv : v < 2 ^ m) : fld (putN W a m v) a m = v :=
  fld_lays (l := [⟨a, m, v⟩]) (by simp [placesL, apartL, h2]) (c := ⟨a, m, v⟩) (by simp) hv
theorem field_eq (W : Int) {a m : Nat} (h1 : 1 ≤ m) (h2 : a + m ≤ 32) : fieldV W a m = ((fld W.toNat a m : Nat) : Int) := by
  unfold fieldV; rw [if_pos (inWord_yes h1 h2)]; rfl
theorem got_eq (W n : Int) {a m : Nat} (h1 : 1 ≤ m) (h2 : a + m ≤ 32) : crossG true W n a m = ((lowN n m : Nat) : Int) := by
  unfold crossG
  rw [put_eq W n h1 h2, field_eq _ h1 h2, Int.toNat_natCast, fld_put h2 (lowN_lt n m)]
theorem take_eq (W n : Int) {a m : Nat} (h1 : 1 ≤ m) (h2 : a + m ≤ 32) : crossG false W n a m = ((fld W.toNat a m : Nat) : Int) := field_eq W h1 h2

/-- How a step lays an instruction's fields into a word, and takes them out of it. -/
structure Cd (t : Tr) (cr : Ins → List Cr) (fits : Ins → Prop) (ag : Nat → Ins → Prop) (got : Nat → Ins → Ins) : Prop where
  lay : ∀ W i, W32 W → fits i → t true (W, i) = (((lays W.toNat (cr i) : Nat) : Int), i)
  take : ∀ W i, W32 W → t false (W, i) = (W, got W.toNat i)
  into : ∀ W i, ag W i → fits i ∧ ∀ c ∈ cr i, fld W c.a c.m = c.v
  fro : ∀ W i, fits i → (∀ c ∈ cr i, fld W c.a c.m = c.v) → ag W i
  small : ∀ i, ∀ c ∈ cr i, c.v < 2 ^ c.m
theorem w32_nat {n : Nat} (h : n < 4294967296) : W32 (n : Int) := ⟨by omega, by omega⟩
theorem w32_of {W : Int} (h : W32 W) : W.toNat < 4294967296 ∧ ((W.toNat : Nat) : Int) = W := ⟨by have := h.1; have := h.2; omega, Int.toNat_of_nonneg h.1⟩
theorem cd_then {f g : Tr} {cf cg : Ins → List Cr} {pf pg : Ins → Prop} {af ag : Nat → Ins → Prop} {gf gg : Nat → Ins → Ins} (hf : Cd f cf pf af gf) (hg : Cd g cg pg ag gg) :
    Cd (thenT f g) (fun i => cf i ++ cg i) (fun i => pf i ∧ pg i) (fun W i => af W i ∧ ag W i) (fun W i => gg W (gf W i)) where
  lay W i hW h := by
    show g true (f true (W, i)) = _
    rw [hf.lay W i hW h.1, hg.lay _ i (w32_nat (lays_lt (w32_of hW).1 _ (w32_of hW).1)) h.2, Int.toNat_natCast, lays_append]
  take W i hW := by
    show g false (f false (W, i)) = _
    rw [hf.take W i hW, hg.take W _ hW]
  into W i h := by
    obtain ⟨p1, q1⟩ := hf.into W i h.1
    obtain ⟨p2, q2⟩ := hg.into W i h.2
    exact ⟨⟨p1, p2⟩, fun c hc => (List.mem_append.1 hc).elim (q1 c) (q2 c)⟩
  fro W i h hc := ⟨hf.fro W i h.1 fun c hm => hc c (List.mem_append.2 (.inl hm)), hg.fro W i h.2 fun c hm => hc c (List.mem_append.2 (.inr hm))⟩
  small i c hc := (List.mem_append.1 hc).elim (hf.small i c) (hg.small i c)

theorem Fl.set_get (k : Fl) (i : Ins) : k.set (k.get i) i = i := by cases k <;> rfl
theorem Bl.set_get (k : Bl) (i : Ins) : k.set (k.get i) i = i := by cases k <;> rfl
theorem tdiv_nat (x : Nat) {u : Int} (hu : 1 ≤ u) : ((x : Int) * u).tdiv u = x := Int.mul_tdiv_cancel _ (by omega)
theorem cd_num (k : Fl) (u : Int) (a m : Nat) (hu : 1 ≤ u) (h1 : 1 ≤ m) (h2 : a + m ≤ 32) :
    Cd (numT k u a m) (fun i => [⟨a, m, lowN ((k.get i).tdiv u) m⟩]) (fun i => ∃ x : Nat, x < 2 ^ m ∧ k.get i = x * u) (fun W i => k.get i = (fld W a m : Nat) * u) (fun W i => k.set ((fld W a m : Nat) * u) i) where
  lay W i _ h := by
    obtain ⟨x, hx, e⟩ := h
    show (crossW true W ((k.get i).tdiv u) a m, k.set (crossG true W ((k.get i).tdiv u) a m * u) i) = _
    rw [put_eq _ _ h1 h2, got_eq _ _ h1 h2]
    have : ((lowN ((k.get i).tdiv u) m : Nat) : Int) * u = k.get i := by rw [e, tdiv_nat x hu, lowN_nat (by omega) hx]
    rw [this, Fl.set_get]; rfl
  take W i _ := by
    show (W, k.set (crossG false W ((k.get i).tdiv u) a m * u) i) = _
    rw [take_eq _ _ h1 h2]
  into W i h := by
    refine ⟨⟨fld W a m, fld_lt _ _ _, h⟩, ?_⟩
    intro c hc
    obtain rfl : c = ⟨a, m, lowN ((k.get i).tdiv u) m⟩ := by simpa using hc
    show fld W a m = lowN ((k.get i).tdiv u) m
    rw [h, tdiv_nat _ hu, lowN_nat (by omega) (fld_lt _ _ _)]
  fro W i h hc := by
    obtain ⟨x, hx, e⟩ := h
    have := hc _ (List.mem_singleton.2 rfl)
    have this : fld W a m = lowN ((k.get i).tdiv u) m := this
    rw [e, tdiv_nat x hu, lowN_nat (by omega) hx] at this
    rw [this]; exact e
  small i c hc := by
    obtain rfl : c = ⟨a, m, lowN ((k.get i).tdiv u) m⟩ := by simpa using hc
    exact lowN_lt _ _
theorem bool_low (x : Bool) : (((lowN (boolI x) 1 : Nat) : Int) == 1) = x := by cases x <;> decide
theorem fld_one (W a : Nat) : fld W a 1 = lowN (boolI (((fld W a 1 : Nat) : Int) == 1)) 1 := by
  have : fld W a 1 < 2 := fld_lt W a 1
  rcases (by omega : fld W a 1 = 0 ∨ fld W a 1 = 1) with h | h <;> rw [h] <;> rfl
theorem cd_sgn (k : Bl) (a : Nat) (h2 : a + 1 ≤ 32) :
    Cd (sgnT k a) (fun i => [⟨a, 1, lowN (boolI (k.get i)) 1⟩]) (fun _ => True) (fun W i => k.get i = (((fld W a 1 : Nat) : Int) == 1)) (fun W i => k.set (((fld W a 1 : Nat) : Int) == 1) i) where
  lay W i _ _ := by
    show (crossW true W (boolI (k.get i)) a ((1 : Nat) : Int), k.set (crossG true W (boolI (k.get i)) a ((1 : Nat) : Int) == 1) i) = _
    rw [put_eq _ _ (by decide) h2, got_eq _ _ (by decide) h2, bool_low, Bl.set_get]; rfl
  take W i _ := by
    show (W, k.set (crossG false W (boolI (k.get i)) a ((1 : Nat) : Int) == 1) i) = _
    rw [take_eq _ _ (by decide) h2]
  into W i h := by
    refine ⟨trivial, ?_⟩
    intro c hc
    obtain rfl : c = ⟨a, 1, lowN (boolI (k.get i)) 1⟩ := by simpa using hc
    show fld W a 1 = lowN (boolI (k.get i)) 1
    rw [h]; exact fld_one W a
  fro W i _ hc := by
    have this : fld W a 1 = lowN (boolI (k.get i)) 1 := hc _ (List.mem_singleton.2 rfl)
    rw [this, bool_low]
  small i c hc := by
    obtain rfl : c = ⟨a, 1, lowN (boolI (k.get i)) 1⟩ := by simpa using hc
    exact lowN_lt _ _
theorem cd_nothing : Cd nothingT (fun _ => []) (fun _ => True) (fun _ _ => True) (fun _ i => i) where
  lay W i hW _ := by show (W, i) = (((W.toNat : Nat) : Int), i); rw [(w32_of hW).2]
  take _ _ _ := rfl
  into _ _ _ := ⟨trivial, fun _ h => by cases h⟩
  fro _ _ _ _ := trivial
  small _ _ h := by cases h
end Go.Proofs.YtbjcdpmhmebjnaaGreat
