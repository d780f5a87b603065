/- New. -/
import Derived.Test.YtjkjbcnafpljoaaRm
import Derived.Laws.MakeOwn
namespace Go.Proofs.Ytjkjbcnafpljoaa
open Go.RowKit
set_option linter.unusedVariables false
set_option linter.unusedSimpArgs false

theorem inf104 : ∃ i, Try.prog.info? 104 = some i ∧ i.zero = some (.agg #[vU 0, vI 0]) ∧ i.size = 2 ∧ i.bytes = 16 := by
  have h : (Try.prog.info? 104).map (fun i => (i.zero, i.size, i.bytes)) = some (some (.agg #[vU 0, vI 0]), 2, 16) := by kernel_rfl
  cases hq : Try.prog.info? 104 with
  | none => rw [hq] at h; cases h
  | some i =>
    rw [hq] at h
    simp only [Option.map_some, Option.some.injEq, Prod.mk.injEq] at h
    exact ⟨i, rfl, h.1, h.2.1, h.2.2⟩
theorem inf77 : ∃ i, Try.prog.info? 77 = some i ∧ i.zero = some (.agg #[vI 0, .slice none 0 0]) ∧ i.size = 2 ∧ i.bytes = 32 := by
  have h : (Try.prog.info? 77).map (fun i => (i.zero, i.size, i.bytes)) = some (some (.agg #[vI 0, .slice none 0 0]), 2, 32) := by kernel_rfl
  cases hq : Try.prog.info? 77 with
  | none => rw [hq] at h; cases h
  | some i =>
    rw [hq] at h
    simp only [Option.map_some, Option.some.injEq, Prod.mk.injEq] at h
    exact ⟨i, rfl, h.1, h.2.1, h.2.2⟩
theorem made2 (x y : Value) (n : Nat) : madeCells #[x, y] (n * 2) = ((List.replicate n ()).flatMap fun _ => [x, y]).toArray := by
  apply Array.ext
  · simp [madeCells]
  · intro j h1 h2
    have hj : j < n * 2 := by simpa [madeCells] using h1
    have e1 : (madeCells #[x, y] (n * 2))[j] = #[x, y][j % 2]! := by simp [madeCells]
    rw [e1]
    simp only [List.getElem_toArray]
    have key : ∀ (n j : Nat) (h : j < n * 2), ((List.replicate n ()).flatMap fun _ => [x, y])[j]? = some (#[x, y][j % 2]!) := by
      intro n
      induction n with
      | zero => intro j h; omega
      | succ n ih =>
        intro j h
        rw [List.replicate_succ, List.flatMap_cons]
        match j with
        | 0 => rfl
        | 1 => rfl
        | j + 2 =>
          rw [List.getElem?_append_right (by simp)]
          have := ih j (by omega)
          simp only [List.length_cons, List.length_nil, Nat.zero_add, Nat.add_sub_cancel, Nat.add_mod_right] at this ⊢
          exact this
    have := key n j hj
    rw [List.getElem?_eq_some_iff] at this
    exact this.2.symm
theorem made_words (n : Nat) : madeCells (Value.cells (.agg #[vU 0, vI 0])) (n * 2) = (flatW (List.replicate n (0, 0))).toArray := by
  show madeCells #[vU 0, vI 0] (n * 2) = _
  rw [made2]
  congr 1
  induction n with
  | zero => rfl
  | succ n ih => simp only [List.replicate_succ, List.flatMap_cons, flatW] at ih ⊢; rw [ih]
theorem made_bufs (n : Nat) : madeCells (Value.cells (.agg #[vI 0, .slice none 0 0])) (n * 2) = (flatB 0 (List.replicate n (.slice none 0 0))).toArray := by
  show madeCells #[vI 0, .slice none 0 0] (n * 2) = _
  rw [made2]
  congr 1
  induction n with
  | zero => rfl
  | succ n ih => simp only [List.replicate_succ, List.flatMap_cons, flatB] at ih ⊢; rw [ih]
def MW (w0 : World) (n : Nat) (v : Value) (w : World) : Prop := ∃ b, v = .slice (some ⟨b, 0, none⟩) n n ∧ w0.heap.size ≤ b ∧ w.heap[b]? = some (.cells (flatW (List.replicate n (0, 0))).toArray 104)
def MB (w0 : World) (n : Nat) (v : Value) (w : World) : Prop := ∃ b, v = .slice (some ⟨b, 0, none⟩) n n ∧ w0.heap.size ≤ b ∧ w.heap[b]? = some (.cells (flatB 0 (List.replicate n (.slice none 0 0))).toArray 77)
def MA (w0 : World) (n c : Nat) (v : Value) (w : World) : Prop := ∃ v1 v2, v = .agg #[v1, v2, .slice none 0 0, vI 0] ∧ MW w0 n v1 w ∧ MB w0 c v2 w
def MM (w0 : World) (n c : Nat) (v : Value) (w : World) : Prop := ∃ b v1 v2, v = ptr b 0 ∧ w0.heap.size ≤ b ∧ w.heap[b]? = some (.cells #[v1, v2, .slice none 0 0, vI 0] 75) ∧ MW w0 n v1 w ∧ MB w0 c v2 w
theorem mw_up (w0 : World) (n : Nat) (v : Value) : Rel.Up Rel.Grows (MW w0 n v) := fun _ _ ⟨b, e, hb, hh⟩ hg => ⟨b, e, hb, by rw [hg.block _ (lt_of_some hh)]; exact hh⟩
theorem mb_up (w0 : World) (n : Nat) (v : Value) : Rel.Up Rel.Grows (MB w0 n v) := fun _ _ ⟨b, e, hb, hh⟩ hg => ⟨b, e, hb, by rw [hg.block _ (lt_of_some hh)]; exact hh⟩
theorem ma_up (w0 : World) (n c : Nat) (v : Value) : Rel.Up Rel.Grows (MA w0 n c v) := fun _ _ ⟨v1, v2, e, h1, h2⟩ hg => ⟨v1, v2, e, mw_up _ _ _ _ _ h1 hg, mb_up _ _ _ _ _ h2 hg⟩
theorem mm_up (w0 : World) (n c : Nat) (v : Value) : Rel.Up Rel.Grows (MM w0 n c v) := fun _ _ ⟨b, v1, v2, e, hb, hh, h1, h2⟩ hg => ⟨b, v1, v2, e, hb, by rw [hg.block _ (lt_of_some hh)]; exact hh, mw_up _ _ _ _ _ h1 hg, mb_up _ _ _ _ _ h2 hg⟩
theorem rel_build {o : Oper} {a : Act} {w w0 : World} {n c : Nat} {v1 v2 : Value} (x y : Operand) (ho : o.op = .build 75 #[(0, x), (1, y)]) (h1 : MW w0 n v1 w) (h2 : MB w0 c v2 w) (hx : a.eval x = v1) (hy : a.eval y = v2) :
    Rel.relUpon Try.prog Rel.Grows (MA w0 n c) w ((execOp a.eval o).run Try.prog w) := by
  obtain ⟨b1, rfl, k1⟩ := id h1
  obtain ⟨b2, rfl, k2⟩ := id h2
  have hb : Try.prog.built 75 [(0, .slice (some ⟨b1, 0, none⟩) n n), (1, .slice (some ⟨b2, 0, none⟩) c c)] = some #[.slice (some ⟨b1, 0, none⟩) n n, .slice (some ⟨b2, 0, none⟩) c c, .slice none 0 0, vI 0] := by kernel_rfl
  unfold execOp
  simp only [ho, List.map_toArray, List.map_cons, List.map_nil, hx, hy, Sem.run_bind, run_build w 75 _ _ hb, Result.andThen_ok]
  exact ⟨Below.refl _ _, _, _, rfl, h1, h2⟩
theorem rel_box {o : Oper} {a : Act} {w w0 : World} {n c : Nat} {v : Value} (x : Operand) (ho : o.op = .box 75 x) (h1 : MA w0 n c v w) (hx : a.eval x = v) (h0 : w0.heap.size ≤ w.heap.size) :
    Rel.relUpon Try.prog Rel.Grows (MM w0 n c) w ((execOp a.eval o).run Try.prog w) := by
  obtain ⟨v1, v2, rfl, k1, k2⟩ := id h1
  obtain ⟨b1, rfl, _⟩ := id k1
  obtain ⟨b2, rfl, _⟩ := id k2
  have hb := below_alloc w (.cells #[.slice (some ⟨b1, 0, none⟩) n n, .slice (some ⟨b2, 0, none⟩) c c, .slice none 0 0, vI 0] 75)
  have hr : (Instr.box 75 (.agg #[.slice (some ⟨b1, 0, none⟩) n n, .slice (some ⟨b2, 0, none⟩) c c, .slice none 0 0, vI 0])).run Try.prog w = .ok (ptr w.heap.size 0) (w.alloc (.cells #[.slice (some ⟨b1, 0, none⟩) n n, .slice (some ⟨b2, 0, none⟩) c c, .slice none 0 0, vI 0] 75)) := by
    go_simp
  unfold execOp
  simp only [ho, hx, Sem.run_bind, hr, Result.andThen_ok]
  exact ⟨hb, w.heap.size, _, _, rfl, h0, heap_alloc_new _ _, mw_up _ _ _ _ _ k1 hb, mb_up _ _ _ _ _ k2 hb⟩
theorem rel_words {o : Oper} {a : Act} {w w0 : World} (n : Nat) (x : Operand) (ho : o.op = .makeSlice 72 x x) (hx : a.eval x = vI n) (hn : n ≤ 8192) (h0 : w0.heap.size ≤ w.heap.size) :
    Rel.relUpon Try.prog Rel.Grows (MW w0 n) w ((execOp a.eval o).run Try.prog w) := by
  obtain ⟨i, h1, h2, h3, h4⟩ := inf104
  have hr := run_make (P := Try.prog) w 72 104 i _ Try.underlying72 h1 h2 .i64 .i64 n n (by omega) (Int.le_refl _) (by rw [h4]; omega) (by omega)
  rw [h3, Int.toNat_natCast, made_words] at hr
  unfold execOp
  simp only [ho, hx, Sem.run_bind, hr, Result.andThen_ok]
  exact ⟨below_alloc _ _, w.heap.size, rfl, h0, heap_alloc_new _ _⟩
theorem rel_bufs {o : Oper} {a : Act} {w w0 : World} (n : Nat) (x : Operand) (ho : o.op = .makeSlice 73 x x) (hx : a.eval x = vI n) (hn : n ≤ 8192) (h0 : w0.heap.size ≤ w.heap.size) :
    Rel.relUpon Try.prog Rel.Grows (MB w0 n) w ((execOp a.eval o).run Try.prog w) := by
  obtain ⟨i, h1, h2, h3, h4⟩ := inf77
  have hr := run_make (P := Try.prog) w 73 77 i _ Try.underlying73 h1 h2 .i64 .i64 n n (by omega) (Int.le_refl _) (by rw [h4]; omega) (by omega)
  rw [h3, Int.toNat_natCast, made_bufs] at hr
  unfold execOp
  simp only [ho, hx, Sem.run_bind, hr, Result.andThen_ok]
  exact ⟨below_alloc _ _, w.heap.size, rfl, h0, heap_alloc_new _ _⟩
/-- A memory all of whose blocks were made since the world w0. -/
def Lw (w0 : World) (g : Nat) (S : Sta) (w : World) : Prop := ∃ L, MemAt g S L w ∧ (∀ k, Foot g L k → w0.heap.size ≤ k) ∧ Below w0.heap.size w0 w
theorem Lw.turn {w0 w w' : World} {g : Nat} {S S' : Sta} (h : Lw w0 g S w) (t : ∀ L, MemAt g S L w → Turn g L S' w w') : Lw w0 g S' w' := by
  obtain ⟨L, M, F, B⟩ := h
  obtain ⟨L', M', go, ft⟩ := t L M
  refine ⟨L', M', fun k hk => ?_, B.trans ((go.mono (G := fun k => w0.heap.size ≤ k) fun k _ hk => F k hk).below B.size fun _ hk => hk)⟩
  rcases ft k hk with e | e
  · exact F k e
  · exact Nat.le_trans B.size e
theorem Lw.grow {w0 w w' : World} {g : Nat} {S : Sta} (h : Lw w0 g S w) (hb : Below w.heap.size w w') : Lw w0 g S w' := h.turn fun L M => turn_of_below M hb
theorem Lw.below {w0 w : World} {g : Nat} {S : Sta} (h : Lw w0 g S w) : Below w0.heap.size w0 w := by obtain ⟨_, _, _, B⟩ := h; exact B
def newS (n c : Nat) (d : Int) : Sta := ⟨List.replicate n (0, 0), List.replicate c [], d, [], 0⟩
def newB (n c d : Int) : Bool := (decide (1 ≤ n) && decide (n ≤ 8192)) && ((decide (1 ≤ c) && decide (c ≤ 8)) && (decide (1 ≤ d) && decide (d ≤ 32)))
set_option maxRecDepth 4000 in
theorem new_no (n c d : Int) (w : World) (h : newB n c d = false) : Calls Try.prog 10 #[vI n, vI c, vI d] w fun e w' => e = .returned (.tuple #[.pointer none, vI 1]) ∧ w' = w := by
  unfold newB at h
  cases h1 : (decide (1 ≤ n) && decide (n ≤ 8192))
  · go_enter Try.func10, Try.ntmps10
    go_wp2_with (go_at_call 32; refine (upTo_c _ _ _).mono ?_; rintro e w' ⟨rfl, rfl⟩; dsimp only; rw [h1])
    go_ret2
    exact ⟨rfl, rfl⟩
  · rw [h1, Bool.true_and] at h
    cases h2 : (decide (1 ≤ c) && decide (c ≤ 8))
    · go_enter Try.func10, Try.ntmps10
      go_wp2_with (go_at_call 32; refine (upTo_c _ _ _).mono ?_; rintro e w' ⟨rfl, rfl⟩; dsimp only; first | rw [h1] | rw [h2])
      go_ret2
      exact ⟨rfl, rfl⟩
    · rw [h2, Bool.true_and] at h
      go_enter Try.func10, Try.ntmps10
      go_wp2_with (go_at_call 32; refine (upTo_c _ _ _).mono ?_; rintro e w' ⟨rfl, rfl⟩; dsimp only; first | rw [h1] | rw [h2] | rw [h])
      go_ret2
      exact ⟨rfl, rfl⟩
/-- While the depths are laid down. -/
structure NL (n c : Nat) (d : Int) (w0 : World) (g gw gb i : Nat) (w : World) : Prop where
  top : w.heap[g]? = some (.cells #[.slice (some ⟨gw, 0, none⟩) n n, .slice (some ⟨gb, 0, none⟩) c c, .slice none 0 0, vI 0] 75)
  words : w.heap[gw]? = some (.cells (flatW (List.replicate n (0, 0))).toArray 104)
  bufs : w.heap[gb]? = some (.cells (flatB d (List.replicate i (.slice none 0 0)) ++ flatB 0 (List.replicate (c - i) (.slice none 0 0))).toArray 77)
  g0 : w0.heap.size ≤ g
  g1 : w0.heap.size ≤ gw
  g2 : w0.heap.size ≤ gb
  below : Below w0.heap.size w0 w
theorem flatB_step (d : Int) (i m : Nat) : (flatB d (List.replicate i (.slice none 0 0)) ++ flatB 0 (List.replicate (m + 1) (.slice none 0 0))).set (i * 2) (vI d) = flatB d (List.replicate (i + 1) (.slice none 0 0)) ++ flatB 0 (List.replicate m (.slice none 0 0)) := by
  have hl : (flatB d (List.replicate i (Value.slice none 0 0))).length = i * 2 := by rw [len_flatB, List.length_replicate]
  rw [List.set_append_right _ _ (by omega), hl, Nat.sub_self, List.replicate_succ, List.replicate_succ']
  simp [flatB]
theorem NL.cell {n c : Nat} {d : Int} {w0 w : World} {g gw gb i : Nat} (h : NL n c d w0 g gw gb i w) (hi : i < c) : w.cell? ⟨gb, i * 2, none⟩ = some (vI 0) := by
  have hl : (flatB d (List.replicate i (Value.slice none 0 0))).length = i * 2 := by rw [len_flatB, List.length_replicate]
  obtain ⟨m, rfl⟩ : ∃ m, c = i + m + 1 := ⟨c - i - 1, by omega⟩
  rw [cell_of_row _ _ _ _ _ _ h.bufs]
  simp only [List.getElem?_toArray]
  rw [List.getElem?_append_right (by omega), hl, Nat.sub_self, show i + m + 1 - i = m + 1 by omega]
  rfl
theorem NL.step {n c : Nat} {d : Int} {w0 w : World} {g gw gb i : Nat} (h : NL n c d w0 g gw gb i w) (hi : i < c) : NL n c d w0 g gw gb (i + 1) (w.setCell ⟨gb, i * 2, none⟩ (vI d)) := by
  have e1 : g ≠ gb := ne_of_type h.top h.bufs (by decide)
  have e2 : gw ≠ gb := ne_of_type h.words h.bufs (by decide)
  have e : w.setCell ⟨gb, i * 2, none⟩ (vI d) = w.setRow gb (flatB d (List.replicate (i + 1) (.slice none 0 0)) ++ flatB 0 (List.replicate (c - (i + 1)) (.slice none 0 0))).toArray := by
    obtain ⟨m, rfl⟩ : ∃ m, c = i + m + 1 := ⟨c - i - 1, by omega⟩
    rw [setCell_eq_setRow _ _ _ _ _ _ _ h.bufs, List.setIfInBounds_toArray, show i + m + 1 - i = m + 1 by omega, flatB_step, show i + m + 1 - (i + 1) = m by omega]
  rw [e]
  exact ⟨by rw [setRow_other _ _ _ _ e1]; exact h.top, by rw [setRow_other _ _ _ _ e2]; exact h.words, setRow_heap _ _ _ _ _ _ h.bufs, h.g0, h.g1, h.g2, h.below.trans ⟨rfl, rfl, rfl, by simp, fun k hk => setRow_other _ _ _ _ (by have := h.g2; omega)⟩⟩
def newLay (c gw gb : Nat) : Lay := ⟨gw, gb, .slice none 0 0, List.replicate c (.slice none 0 0)⟩
theorem NL.done {n c : Nat} {d : Int} {w0 w : World} {g gw gb : Nat} (h : NL n c d w0 g gw gb c w) : MemAt g (newS n c d) (newLay c gw gb) w ∧ ∀ k, Foot g (newLay c gw gb) k → w0.heap.size ≤ k := by
  refine ⟨⟨?_, h.words, ?_, World.ownsRow_nil _ _ _ _, by simp [newLay, newS], ?_, ?_⟩, ?_⟩
  · have := h.top
    simpa [topV, newS, newLay] using this
  · have := h.bufs
    simpa [flatB, newS, newLay] using this
  · intro k v l hv hl
    have hv' := List.mem_of_getElem? hv
    have hl' := List.mem_of_getElem? hl
    simp only [newLay, newS, List.mem_replicate] at hv' hl'
    rw [hv'.2, hl'.2]
    exact World.ownsRow_nil _ _ _ _
  · intro i j v u b hv hu hij hvb
    have hv' := List.mem_of_getElem? hv
    simp only [newLay, List.mem_replicate] at hv'
    rw [hv'.2] at hvb
    cases hvb
  · rintro k (rfl | rfl | rfl | e | ⟨v, hv, e⟩)
    · exact h.g0
    · exact h.g1
    · exact h.g2
    · cases e
    · simp only [newLay, List.mem_replicate] at hv
      rw [hv.2] at e
      cases e
theorem new_ok {n c : Nat} {d : Int} (h : newB n c d = true) : (newS n c d).Ok := by
  simp only [newB, Bool.and_eq_true, decide_eq_true_eq] at h
  refine ⟨by simp [newS]; omega, by simp [newS]; omega, by simp [newS]; omega, by simp [newS]; omega, by simp [newS]; omega, by simp [newS]; omega, ?_, ?_, by simp [newS], by simp [newS], by simp [newS]⟩
  · intro l hl s hs
    simp only [newS, List.mem_replicate] at hl
    rw [hl.2] at hs
    cases hs
  · intro l hl
    simp only [newS, List.mem_replicate] at hl
    rw [hl.2]
    simp [newS]; omega
set_option maxRecDepth 4000 in
theorem new_c (n c : Nat) (d : Int) (w : World) (h : newB n c d = true) : Calls Try.prog 10 #[vI n, vI c, vI d] w fun e w' => ∃ g, e = .returned (.tuple #[ptr g 0, vI 0]) ∧ Lw w g (newS n c d) w' := by
  simp only [newB, Bool.and_eq_true, decide_eq_true_eq] at h
  have h1 : (decide (1 ≤ (n : Int)) && decide ((n : Int) ≤ 8192)) = true := by simp only [Bool.and_eq_true, decide_eq_true_eq]; omega
  have h2 : (decide (1 ≤ (c : Int)) && decide ((c : Int) ≤ 8)) = true := by simp only [Bool.and_eq_true, decide_eq_true_eq]; omega
  have h3 : (decide (1 ≤ d) && decide (d ≤ 32)) = true := by simp only [Bool.and_eq_true, decide_eq_true_eq]; omega
  have hn : n ≤ 8192 := by omega
  have hc : c ≤ 8 := by omega
  have hc1 : 1 ≤ c := by omega
  clear h
  go_enter Try.func10, Try.ntmps10
  go_upto_region 3 with (go_at_call 32; refine (upTo_c _ _ _).mono ?_; rintro e w' ⟨rfl, rfl⟩; dsimp only; first | rw [h1] | rw [h2] | rw [h3])
  clear h1 h2 h3
  refine Rel.wp_region_rel Rel.Grows (fun x => Below w'.heap.size w' x) [.inl (vI n), .inr (MW w' n), .inl (vI c), .inr (MB w' c), .inr (MA w' n c), .inr (MM w' n c), .inr (MM w' n c)] (by kernel_rfl) (by kernel_rfl) (fun a b h1 h2 => below_then h1 (Nat.le_refl _) h2) ⟨rfl, rfl, rfl, Nat.le_refl _, fun _ _ => rfl⟩ ?_ ?_
  · intro k hk
    simp only [List.mem_cons, List.not_mem_nil, or_false] at hk
    rcases hk with rfl | rfl | rfl | rfl | rfl | rfl | rfl
    · trivial
    · exact mw_up _ _
    · trivial
    · exact mb_up _ _
    · exact ma_up _ _ _
    · exact mm_up _ _ _
    · exact mm_up _ _ _
  refine ⟨fun w1 hC hF => by (go_simp <;> exact Below.refl _ _), ?_⟩
  simp only [Act.put, List.setIfInBounds_toArray, List.set_cons_succ, List.set_cons_zero]
  refine ⟨fun w1 hC hF => rel_words n _ rfl rfl hn hC.size, fun v1 => ?_⟩
  simp only [Act.put, List.setIfInBounds_toArray, List.set_cons_succ, List.set_cons_zero]
  refine ⟨fun w1 hC hF => by (go_simp <;> exact Below.refl _ _), ?_⟩
  simp only [Act.put, List.setIfInBounds_toArray, List.set_cons_succ, List.set_cons_zero]
  refine ⟨fun w1 hC hF => rel_bufs c _ rfl rfl (by omega) hC.size, fun v2 => ?_⟩
  simp only [Act.put, List.setIfInBounds_toArray, List.set_cons_succ, List.set_cons_zero]
  refine ⟨fun w1 hC hF => by
    have f1 : MW w' n v1 w1 := (hF 1 (by kernel_rfl)).2.1 rfl
    have f2 : MB w' c v2 w1 := (hF 3 (by kernel_rfl)).1 rfl
    exact rel_build _ _ rfl f1 f2 rfl rfl, fun v3 => ?_⟩
  simp only [Act.put, List.setIfInBounds_toArray, List.set_cons_succ, List.set_cons_zero]
  refine ⟨fun w1 hC hF => by
    have f3 : MA w' n c v3 w1 := (hF 4 (by kernel_rfl)).1 rfl
    exact rel_box _ rfl f3 rfl hC.size, fun v4 => ?_⟩
  simp only [Act.put, List.setIfInBounds_toArray, List.set_cons_succ, List.set_cons_zero]
  refine ⟨fun w1 hC hF => by
    have f4 : MM w' n c v4 w1 := (hF 5 (by kernel_rfl)).1 rfl
    go_simp
    exact Below.refl _ _, fun v5 => ?_⟩
  simp only [Act.put, List.setIfInBounds_toArray, List.set_cons_succ, List.set_cons_zero]
  intro w2 hC hF
  obtain ⟨g, v1, v2, rfl, hg0, hg, ⟨gw, rfl, hw0, hgw⟩, ⟨gb, rfl, hb0, hgb⟩⟩ : MM w' n c v5 w2 := (hF 6).1 rfl
  have hN : NL n c d w' g gw gb 0 w2 := ⟨hg, hgw, by rw [hgb]; rfl, hg0, hw0, hb0, hC⟩
  clear hF
  have c1 : w2.cell? ⟨g, 1, none⟩ = some (.slice (some ⟨gb, 0, none⟩) c c) := by rw [cell_of_row _ _ _ _ _ _ hg]; rfl
  clear hg hgw hgb hC hg0 hw0 hb0
  go_wp2
  clear c1
  go_loopw [34] (fun s34 wr => ∃ i : Nat, i ≤ c ∧ s34 = .int .i64 i ∧ Hid (NL n c d w' g gw gb i wr)) (fun s34 _ => c - (intOf s34).toNat)
  case atStart => exact ⟨0, Nat.zero_le _, rfl, hN⟩
  case round =>
    obtain ⟨i, hi, rfl, hH⟩ := hrel
    have H := hH.out
    clear hH hN
    by_cases hlt : (i : Int) < c
    · have hi2 : i < c := by omega
      have hi0 : (0 : Int) ≤ i := by omega
      have c1 : wr.cell? ⟨g, 1, none⟩ = some (.slice (some ⟨gb, 0, none⟩) c c) := by rw [cell_of_row _ _ _ _ _ _ H.top]; rfl
      have c2 := H.cell hi2
      have fz := frozen_of_row wr gb (i * 2) _ _ H.bufs
      have hn2 := H.step hi2
      go_wp2
      go_roundw
      case rel => exact ⟨i + 1, by omega, by go_num, hn2⟩
      case measure => simp [intOf]; omega
    · obtain rfl : i = c := by omega
      obtain ⟨M, F⟩ := H.done
      have hB := H.below
      clear H
      go_wp2
      go_ret2
      exact ⟨g, rfl, newLay i gw gb, M, F, hB⟩
end Go.Proofs.Ytjkjbcnafpljoaa
