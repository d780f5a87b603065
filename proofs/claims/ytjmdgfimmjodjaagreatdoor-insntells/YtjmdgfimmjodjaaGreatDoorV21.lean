/- Two rows that a call of the document's own answer makes beside each other, registers and whether each is the stack pointer: laws by which they grow, and the list that is made of them. -/
import Derived.Test.YtjmdgfimmjodjaaGreatDoorV20
namespace Go.Proofs.YtjmdgfimmjodjaaGreatDoor
open Go.RowKit Go.Rel

theorem bool_info : ∃ i0, Tryz.prog.info? 4 = some i0 ∧ i0.zero = some (.bool false) ∧ i0.size = 1 ∧ i0.bytes = 1 := by
  have h : (Tryz.prog.info? 4).map (fun i => (i.zero, i.size, i.bytes)) = some (some (.bool false), 1, 1) := by kernel_rfl
  cases hq : Tryz.prog.info? 4 with
  | none => rw [hq] at h; cases h
  | some i =>
    rw [hq] at h
    simp only [Option.map_some, Option.some.injEq, Prod.mk.injEq] at h
    exact ⟨i, rfl, h.1, h.2.1, h.2.2⟩
theorem own_typed {w : World} {base : Nat} {e : TypeId} {size n : Nat} {v : Value} {xs : List Value} (h : w.ownsRow base e size v n xs) : ∀ g, v.ownBlock = some g → ∃ cur, w.heap[g]? = some (.cells cur e (0, 0)) := by
  intro g hg
  rcases h.2 with ⟨rfl, -⟩ | ⟨g', cap, cur, rfl, -, hc, -⟩
  · cases hg
  · obtain rfl : g' = g := by simpa [Value.ownBlock] using hg
    exact ⟨cur, hc⟩
theorem own_ne {w : World} {base base' : Nat} {e e' : TypeId} {size size' n n' : Nat} {v v' : Value} {xs xs' : List Value} (h : w.ownsRow base e size v n xs) (h' : w.ownsRow base' e' size' v' n' xs') (he : e ≠ e') : v.ownBlock = none ∨ v.ownBlock ≠ v'.ownBlock := by
  cases hv : v.ownBlock with
  | none => exact Or.inl rfl
  | some g =>
    refine Or.inr fun hh => ?_
    obtain ⟨c1, h1⟩ := own_typed h g hv
    obtain ⟨c2, h2⟩ := own_typed h' g hh.symm
    rw [h1] at h2
    simp only [Option.some.injEq, Obj.cells.injEq] at h2
    exact he h2.2.1
structure Pair (i : Ins) (w0 : World) (rs : List Int) (sp : List Bool) (v5 v6 : Value) (w : World) : Prop where
  one : One i w0 w
  ri : w.ownsRow w0.heap.size 3 1 v5 rs.length (rs.map vI)
  rb : w.ownsRow w0.heap.size 4 1 v6 sp.length (sp.map Value.bool)
theorem Pair.grow {i : Ins} {w0 w w' : World} {rs : List Int} {sp : List Bool} {v5 v6 : Value} (h : Pair i w0 rs sp v5 v6 w) (hb : Below w.heap.size w w') : Pair i w0 rs sp v5 v6 w' := ⟨h.one.grow hb, own_up h.ri hb, own_up h.rb hb⟩
theorem Pair.alloc {i : Ins} {w0 w : World} {rs : List Int} {sp : List Bool} {v5 v6 : Value} (h : Pair i w0 rs sp v5 v6 w) (o : Obj) : Pair i w0 rs sp v5 v6 (w.alloc o) := h.grow (below_alloc _ _)
theorem Pair.apartBI {i : Ins} {w0 w : World} {rs : List Int} {sp : List Bool} {v5 v6 : Value} (h : Pair i w0 rs sp v5 v6 w) : v6.ownBlock = none ∨ v6.ownBlock ≠ v5.ownBlock := own_ne h.rb h.ri (by decide)
theorem Pair.apartIB {i : Ins} {w0 w : World} {rs : List Int} {sp : List Bool} {v5 v6 : Value} (h : Pair i w0 rs sp v5 v6 w) : v5.ownBlock = none ∨ v5.ownBlock ≠ v6.ownBlock := own_ne h.ri h.rb (by decide)
theorem box_ne {i : Ins} {w0 w : World} {e : TypeId} {size n base : Nat} {v : Value} {xs : List Value} (h : One i w0 w) (hr : w.ownsRow base e size v n xs) (he : e ≠ 23) : ∀ k, v.ownBlock = some k → k ≠ w0.heap.size := by
  rintro k hk rfl
  obtain ⟨cur, hc⟩ := own_typed hr _ hk
  have := h.box
  rw [hc] at this
  simp only [Option.some.injEq, Obj.cells.injEq] at this
  exact he this.2.1
theorem Pair.apartI {i : Ins} {w0 w : World} {rs : List Int} {sp : List Bool} {v5 v6 : Value} (h : Pair i w0 rs sp v5 v6 w) : (∀ k, v5.ownBlock = some k → w0.heap.size ≤ k ∧ k ≠ w0.heap.size) := fun k hk => ⟨(h.ri.lt k hk).1, box_ne h.one h.ri (by decide) k hk⟩
theorem Pair.apartB {i : Ins} {w0 w : World} {rs : List Int} {sp : List Bool} {v5 v6 : Value} (h : Pair i w0 rs sp v5 v6 w) : (∀ k, v6.ownBlock = some k → w0.heap.size ≤ k ∧ k ≠ w0.heap.size) := fun k hk => ⟨(h.rb.lt k hk).1, box_ne h.one h.rb (by decide) k hk⟩
theorem One.grownBy {i : Ins} {w0 w w' : World} {row : Option Nat} (h : One i w0 w) (hg : w.grownBy w' row) (hr : ∀ k, row = some k → w0.heap.size ≤ k ∧ k ≠ w0.heap.size) : One i w0 w' := by
  refine ⟨h.below.grown hg h.below.size (fun b hb => (hr b hb).1), ?_⟩
  have hlt := (Array.getElem?_eq_some_iff.1 h.box).1
  rw [hg.block _ hlt (fun e => (hr _ e.symm).2 rfl)]
  exact h.box
theorem app_int {i : Ins} {w0 w : World} {rs : List Int} {sp : List Bool} {v5 v6 : Value} {ops : Array Oper} {rest : List Oper} {o : Oper} {a : Act} {Q : Exit → Act → World → Prop} (hgd : o.guard = none) (s x : Operand)
    (ho : o.op = .call { callee := .builtin .append, args := #[s, x], argTypes := #[33, 33] }) (T : Pair i w0 rs sp v5 v6 w) (y : Int) (hs : a.eval s = v5) (hx : a.eval x = .slice (some ⟨w.heap.size, 0, none⟩) 1 1) (hn : rs.length ≤ 10)
    (h : ∀ v' w', Pair i w0 (rs ++ [y]) (sp) v' v6 w' → wpList Tryz.prog ops Q rest (a.put o.dst v') w') : wpList Tryz.prog ops Q (o :: rest) a (w.alloc (.cells #[vI y] 3)) := by
  obtain ⟨i0, hi, hz0, hz1, hz2⟩ := int_info
  have T' := T.alloc (.cells #[vI y] 3)
  refine wpList_append_own (P := Tryz.prog) _ hgd s x 33 ho w0.heap.size 3 i0 (.int .i64 0) 1 8 Tryz.underlying33 hi hz0 hz1 hz2 rfl (by decide) _ _ _ hs T'.ri ⟨w.heap.size, 0, none⟩ 1 1 [vI y] hx rfl ?_ ?_ ?_ ?_ ?_ ?_
  · intro j u hj
    match j, hj with
    | 0, hj => simp at hj; subst hj; rw [show (⟨w.heap.size, 0, none⟩ : Addr).add 0 = ⟨w.heap.size, 0, none⟩ from rfl, cell_of_row _ _ _ _ _ _ (heap_alloc_new _ _)]; rfl
  · intro u hu; simp at hu; subst hu; rfl
  · unfold maxLen; omega
  · omega
  · exact T'.one.below.size
  · intro v' w' hown hg _
    refine h v' w' ⟨T'.one.grownBy hg (T'.apartI), ?_, ?_⟩
    · simpa using hown
    · exact T'.rb.kept hg T'.apartBI
theorem app_bool {i : Ins} {w0 w : World} {rs : List Int} {sp : List Bool} {v5 v6 : Value} {ops : Array Oper} {rest : List Oper} {o : Oper} {a : Act} {Q : Exit → Act → World → Prop} (hgd : o.guard = none) (s x : Operand)
    (ho : o.op = .call { callee := .builtin .append, args := #[s, x], argTypes := #[59, 59] }) (T : Pair i w0 rs sp v5 v6 w) (y : Bool) (hs : a.eval s = v6) (hx : a.eval x = .slice (some ⟨w.heap.size, 0, none⟩) 1 1) (hn : sp.length ≤ 10)
    (h : ∀ v' w', Pair i w0 (rs) (sp ++ [y]) v5 v' w' → wpList Tryz.prog ops Q rest (a.put o.dst v') w') : wpList Tryz.prog ops Q (o :: rest) a (w.alloc (.cells #[.bool y] 4)) := by
  obtain ⟨i0, hi, hz0, hz1, hz2⟩ := bool_info
  have T' := T.alloc (.cells #[.bool y] 4)
  refine wpList_append_own (P := Tryz.prog) _ hgd s x 59 ho w0.heap.size 4 i0 (.bool false) 1 1 Tryz.underlying59 hi hz0 hz1 hz2 rfl (by decide) _ _ _ hs T'.rb ⟨w.heap.size, 0, none⟩ 1 1 [.bool y] hx rfl ?_ ?_ ?_ ?_ ?_ ?_
  · intro j u hj
    match j, hj with
    | 0, hj => simp at hj; subst hj; rw [show (⟨w.heap.size, 0, none⟩ : Addr).add 0 = ⟨w.heap.size, 0, none⟩ from rfl, cell_of_row _ _ _ _ _ _ (heap_alloc_new _ _)]; rfl
  · intro u hu; simp at hu; subst hu; rfl
  · unfold maxLen; omega
  · omega
  · exact T'.one.below.size
  · intro v' w' hown hg _
    refine h v' w' ⟨T'.one.grownBy hg (T'.apartB), ?_, ?_⟩
    · exact T'.ri.kept hg T'.apartIB
    · simpa using hown
theorem rlistP_c {i : Ins} {w0 w : World} {rs : List Int} {sp : List Bool} {v5 v6 : Value} (T : Pair i w0 rs sp v5 v6 w) (hl : sp.length = rs.length) (h0 : 0 < rs.length) (h4 : rs.length ≤ 4) :
    Calls Tryz.prog 48 #[v5, v6] w fun e w' => ∃ v, e = .returned v ∧ w'.ownsRow w0.heap.size 3 1 v (listL (setAt rs sp) 32).length (listV (setAt rs sp) 32) ∧ Below w0.heap.size w0 w' := by
  have ri := T.ri
  have rb := T.rb
  rcases T.ri.2 with ⟨-, h⟩ | ⟨g1, c1, cur1, rfl, hg1, hc1, -⟩
  · omega
  rcases T.rb.2 with ⟨-, h⟩ | ⟨g2, c2, cur2, rfl, hg2, hc2, -⟩
  · omega
  rw [hl] at rb ⊢
  refine (rlist_c g1 c1 g2 c2 rs sp hl h4 w (Array.getElem?_eq_some_iff.1 hc1).1 (Array.getElem?_eq_some_iff.1 hc2).1 ?_ ?_).mono ?_
  · intro j hj
    rw [ri.cellAt j (by omega)]
    simp [List.getElem?_eq_getElem hj, List.getD_eq_getElem?_getD]
  · intro j hj
    rw [rb.cellAt j (by omega)]
    have hj' : j < sp.length := by omega
    simp [List.getElem?_eq_getElem hj', List.getD_eq_getElem?_getD]
  · rintro e w' ⟨v, rfl, hown, hb⟩
    exact ⟨v, rfl, own_mono hown T.one.below.size, below_then T.one.below hb⟩
set_option maxRecDepth 8000 in
set_option maxHeartbeats 1000000 in
theorem rlist_nil (w : World) :
    Calls Tryz.prog 48 #[.slice none 0 0, .slice none 0 0] w fun e w' => e = .returned (.slice none 0 0) ∧ w' = w := by
  go_enter Tryz.func48, Tryz.ntmps48
  go_wp2
  go_loop [5, 6] (fun v i => ∃ k : Nat, k ≤ 32 ∧ i = .int .i64 k ∧ v = .slice none 0 0) (fun _ i => 32 - (intOf i).toNat)
  case atStart => exact ⟨0, Nat.zero_le _, rfl, rfl⟩
  case round =>
    obtain ⟨k, hk, rfl, rfl⟩ := hrel
    by_cases hlt : (k : Int) < 32
    · go_wp2
      go_loop [7, 8] (fun o i => i = .int .i64 0 ∧ o = .bool false) (fun _ i => 0)
      case atStart => exact ⟨rfl, rfl⟩
      case round =>
        obtain ⟨rfl, rfl⟩ := hrel
        go_wp2
        refine ⟨⟨k + 1, by omega, by go_num, rfl⟩, by simp [intOf]; omega⟩
    · obtain rfl : k = 32 := by omega
      go_wp2
      go_ret
      exact ⟨rfl, rfl⟩
end Go.Proofs.YtjmdgfimmjodjaaGreatDoor
