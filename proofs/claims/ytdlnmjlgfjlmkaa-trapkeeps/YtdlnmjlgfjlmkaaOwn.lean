/- Worlds that hold some states of a call's own, each in a block of its own: read, turned, laid down. -/
import Derived.Test.YtdlnmjlgfjlmkaaNz
import Derived.Test.YtdlnmjlgfjlmkaaChn
namespace Go.Proofs.Ytdlnmjlgfjlmkaa
open Go.RowKit
set_option linter.unusedVariables false

structure Own (w0 : World) (L : List (Nat × Cor)) (w : World) : Prop where
  below : Below w0.heap.size w0 w
  box : ∀ p ∈ L, w0.heap.size ≤ p.1 ∧ w.heap[p.1]? = some (.cells p.2.cells 26)
  apart : (L.map (·.1)).Nodup
theorem own_none (w : World) : Own w [] w := ⟨Below.refl _ _, fun _ h => absurd h List.not_mem_nil, List.nodup_nil⟩
theorem Own.lt {w0 w : World} {L : List (Nat × Cor)} (h : Own w0 L w) {p : Nat × Cor} (hp : p ∈ L) : p.1 < w.heap.size := (Array.getElem?_eq_some_iff.1 (h.box p hp).2).1
theorem Own.grow {w0 w w' : World} {L : List (Nat × Cor)} (h : Own w0 L w) (hb : Below w.heap.size w w') : Own w0 L w' := by
  refine ⟨below_then h.below hb, fun p hp => ?_, h.apart⟩
  exact ⟨(h.box p hp).1, by rw [hb.block _ (h.lt hp)]; exact (h.box p hp).2⟩
theorem Own.more {w0 w : World} {L : List (Nat × Cor)} (h : Own w0 L w) (d : Cor) : Own w0 ((w.heap.size, d) :: L) (w.alloc (.cells d.cells 26)) := by
  refine ⟨below_then h.below (below_alloc _ _), fun p hp => ?_, ?_⟩
  · rcases List.mem_cons.1 hp with rfl | hp
    · exact ⟨h.below.size, heap_alloc_new _ _⟩
    · exact ⟨(h.box p hp).1, by rw [Below.heap_alloc _ _ _ (h.lt hp)]; exact (h.box p hp).2⟩
  · rw [List.map_cons, List.nodup_cons]
    refine ⟨fun hm => ?_, h.apart⟩
    obtain ⟨p, hp, e⟩ := List.mem_map.1 hm
    have := h.lt hp
    omega
theorem own_one (c : Cor) (w : World) : Own w [(w.heap.size, c)] (w.alloc (.cells c.cells 26)) := (own_none w).more c
theorem own_two (c : Cor) (w : World) (Z : Array Value) (hZ : Z = nilC.cells) : Own w [(w.heap.size + 1, nilC), (w.heap.size, c)] ((w.alloc (.cells c.cells 26)).alloc (.cells Z 26)) := by
  subst hZ
  have := (own_one c w).more nilC
  rwa [show (w.alloc (.cells c.cells 26)).heap.size = w.heap.size + 1 by simp] at this
theorem Own.add {w0 w : World} {L : List (Nat × Cor)} (h : Own w0 L w) (d : Cor) (Z : Array Value) : Own w0 ((w.heap.size, d) :: L) ((w.alloc (.cells Z 26)).setRow w.heap.size d.cells) := by
  refine ⟨below_setRow (below_then h.below (below_alloc _ _)) h.below.size, fun p hp => ?_, (h.more d).apart⟩
  rcases List.mem_cons.1 hp with rfl | hp
  · exact ⟨h.below.size, setRow_heap _ _ _ _ _ _ (heap_alloc_new _ _)⟩
  · have := h.lt hp
    exact ⟨(h.box p hp).1, by rw [setRow_other _ _ _ _ (by omega), Below.heap_alloc _ _ _ this]; exact (h.box p hp).2⟩
theorem Own.get {w0 w : World} {L : List (Nat × Cor)} (h : Own w0 L w) {b : Nat} {c : Cor} (hp : (b, c) ∈ L) : w.heap[b]? = some (.cells c.cells 26) := (h.box _ hp).2
theorem Own.at {w0 w : World} {L : List (Nat × Cor)} (h : Own w0 L w) {b : Nat} {c : Cor} (hp : (b, c) ∈ L) (k : Nat) (v : Value) (hv : c.cells[k]? = some v) : w.cell? ⟨b, k, none⟩ = some v := by
  rw [cell_of_row _ _ _ _ _ _ (h.get hp), hv]
/-- One state of them turned. -/
theorem Own.put {w0 w : World} {A L : List (Nat × Cor)} {b : Nat} {c : Cor} (h : Own w0 (A ++ (b, c) :: L) w) (d : Cor) : Own w0 (A ++ (b, d) :: L) (w.setRow b d.cells) := by
  have hb := h.box (b, c) (by simp)
  have hap := h.apart
  simp only [List.map_append, List.map_cons] at hap
  have hne : ∀ p : Nat × Cor, (p ∈ A ∨ p ∈ L) → p.1 ≠ b := by
    intro p hp e
    rw [List.nodup_append] at hap
    rcases hp with hp | hp
    · exact hap.2.2 p.1 (List.mem_map.2 ⟨p, hp, rfl⟩) b (by simp) e
    · have := hap.2.1
      rw [List.nodup_cons] at this
      exact this.1 (e ▸ List.mem_map.2 ⟨p, hp, rfl⟩)
  refine ⟨below_setRow h.below hb.1, fun p hp => ?_, by simpa using hap⟩
  rcases List.mem_append.1 hp with hp | hp
  · exact ⟨(h.box p (by simp [hp])).1, by rw [setRow_other _ _ _ _ (hne p (.inl hp))]; exact (h.box p (by simp [hp])).2⟩
  · rcases List.mem_cons.1 hp with rfl | hp
    · exact ⟨hb.1, setRow_heap _ _ _ _ _ _ hb.2⟩
    · exact ⟨(h.box p (by simp [hp])).1, by rw [setRow_other _ _ _ _ (hne p (.inr hp))]; exact (h.box p (by simp [hp])).2⟩
theorem setCell_row {w : World} {b k : Nat} {c d : Cor} {v : Value} (h : w.heap[b]? = some (.cells c.cells 26)) (hd : c.cells.setIfInBounds k v = d.cells) : w.setCell ⟨b, k, none⟩ v = w.setRow b d.cells := by
  rw [← hd]
  exact setCell_eq_setRow w b k c.cells 26 (0, 0) v h
/-- A block of one's own that was made beside. -/
def Fresh (w0 : World) (L : List (Nat × Cor)) (v : Value) (w : World) : Prop := ∃ b Z, v = .pointer (some ⟨b, 0, none⟩) ∧ w0.heap.size ≤ b ∧ (∀ p ∈ L, p.1 < b) ∧ w.heap[b]? = some (.cells Z 26) ∧ Z.size = 49
theorem fresh_up (w0 : World) (L : List (Nat × Cor)) (v : Value) : Rel.Up Rel.Grows (Fresh w0 L v) := fun _ _ ⟨b, Z, e, hn, hl, hh, hz⟩ hb => ⟨b, Z, e, hn, hl, by rw [hb.block _ (Array.getElem?_eq_some_iff.1 hh).1]; exact hh, hz⟩
theorem own_up (w0 : World) (L : List (Nat × Cor)) : Rel.Up Rel.Grows (Own w0 L) := fun _ _ h hb => h.grow hb
theorem fresh_new {w0 w : World} {L : List (Nat × Cor)} {Z : Array Value} (h : Own w0 L w) (hZ : Z.size = 49) : Fresh w0 L (.pointer (some ⟨w.heap.size, 0, none⟩)) (w.alloc (.cells Z 26)) := ⟨_, Z, rfl, h.below.size, fun _ hp => h.lt hp, heap_alloc_new _ _, hZ⟩
theorem Own.lay {w0 w : World} {L : List (Nat × Cor)} {b : Nat} {Z : Array Value} (h : Own w0 L w) (hb : w0.heap.size ≤ b) (hl : ∀ p ∈ L, p.1 < b) (hh : w.heap[b]? = some (.cells Z 26)) (d : Cor) : Own w0 ((b, d) :: L) (w.setRow b d.cells) := by
  refine ⟨below_setRow h.below hb, fun p hp => ?_, ?_⟩
  · rcases List.mem_cons.1 hp with rfl | hp
    · exact ⟨hb, setRow_heap _ _ _ _ _ _ hh⟩
    · have := hl p hp
      exact ⟨(h.box p hp).1, by rw [setRow_other _ _ _ _ (by omega)]; exact (h.box p hp).2⟩
  · rw [List.map_cons, List.nodup_cons]
    refine ⟨fun hm => ?_, h.apart⟩
    obtain ⟨p, hp, e⟩ := List.mem_map.1 hm
    have := hl p hp
    omega
theorem info_one (ty : TypeId) (h : ty = 22 ∨ ty = 3 ∨ ty = 4) : (Try.prog.info? ty).map (·.size) = some 1 := by
  rcases h with rfl | rfl | rfl <;> kernel_rfl
theorem agg_no (ty : TypeId) (h : ty = 22 ∨ ty = 3 ∨ ty = 4) (w : World) : (isAgg ty).run Try.prog w = .ok false w := by
  rcases h with rfl | rfl | rfl
  · simp [isAgg, run_underlying Try.underlying22]
  · simp [isAgg, run_underlying Try.underlying3]
  · simp [isAgg, run_underlying Try.underlying4]
section
variable {w0 w : World} {L : List (Nat × Cor)} {ops : Array Oper} {rest : List Oper} {o : Oper} {a : Act} {Q : Exit → Act → World → Prop}
/-- A cell read. -/
theorem wpList_get (hw : Region.wanted o (yielded ops a.tmps) = true) (ty : TypeId) (x : Operand) (ho : o.op = .load ty x) (hty : ty = 22 ∨ ty = 3 ∨ ty = 4) (b k : Nat) (hx : a.eval x = .pointer (some ⟨b, k, none⟩)) (v : Value) (hc : w.cell? ⟨b, k, none⟩ = some v)
    (h : wpList Try.prog ops Q rest (a.put o.dst v) w) : wpList Try.prog ops Q (o :: rest) a w := by
  refine BigFrame.wpList_want hw fun K hK => ?_
  unfold Oper.wp execOp
  have ha := agg_no ty hty w
  have hl : (loadVar ty ⟨b, k, none⟩).run Try.prog w = .ok v w := by go_simp
  simp only [ho, hx, Instr.loadAt, Instr.sureAddr, Sem.run_bind, Sem.run_pure, Result.andThen_ok, hl]
  exact hK _ _ h
theorem wpList_get0 {b : Nat} {c : Cor} (H : Own w0 ((b, c) :: L) w) (hw : Region.wanted o (yielded ops a.tmps) = true) (ty : TypeId) (x : Operand) (ho : o.op = .load ty x) (k : Nat) (hx : a.eval x = .pointer (some ⟨b, k, none⟩)) (hty : ty = 22 ∨ ty = 3 ∨ ty = 4) (v : Value) (hc : c.cells[k]? = some v)
    (h : wpList Try.prog ops Q rest (a.put o.dst v) w) : wpList Try.prog ops Q (o :: rest) a w := wpList_get hw ty x ho hty b k hx v (H.at List.mem_cons_self k v hc) h
theorem wpList_get1 {p1 : Nat × Cor} {b : Nat} {c : Cor} (H : Own w0 (p1 :: (b, c) :: L) w) (hw : Region.wanted o (yielded ops a.tmps) = true) (ty : TypeId) (x : Operand) (ho : o.op = .load ty x) (k : Nat) (hx : a.eval x = .pointer (some ⟨b, k, none⟩)) (hty : ty = 22 ∨ ty = 3 ∨ ty = 4) (v : Value) (hc : c.cells[k]? = some v)
    (h : wpList Try.prog ops Q rest (a.put o.dst v) w) : wpList Try.prog ops Q (o :: rest) a w := wpList_get hw ty x ho hty b k hx v (H.at (List.mem_cons_of_mem _ List.mem_cons_self) k v hc) h
theorem wpList_get2 {p1 p2 : Nat × Cor} {b : Nat} {c : Cor} (H : Own w0 (p1 :: p2 :: (b, c) :: L) w) (hw : Region.wanted o (yielded ops a.tmps) = true) (ty : TypeId) (x : Operand) (ho : o.op = .load ty x) (k : Nat) (hx : a.eval x = .pointer (some ⟨b, k, none⟩)) (hty : ty = 22 ∨ ty = 3 ∨ ty = 4) (v : Value) (hc : c.cells[k]? = some v)
    (h : wpList Try.prog ops Q rest (a.put o.dst v) w) : wpList Try.prog ops Q (o :: rest) a w := wpList_get hw ty x ho hty b k hx v (H.at (List.mem_cons_of_mem _ (List.mem_cons_of_mem _ List.mem_cons_self)) k v hc) h
/-- A cell laid down. -/
theorem run_lay {A : List (Nat × Cor)} {b : Nat} {c : Cor} (H : Own w0 (A ++ (b, c) :: L) w) (ty : TypeId) (hty : ty = 22 ∨ ty = 3 ∨ ty = 4) (k : Nat) (v : Value) (d : Cor) (h1 : (∃ k n, v = .int k n) ∨ ∃ b, v = .bool b) (hk : k < 49) (hd : c.cells.setIfInBounds k v = d.cells) :
    (storeVar ty ⟨b, k, none⟩ v).run Try.prog w = .ok () (w.setRow b d.cells) := by
  have hg := H.get (b := b) (c := c) (by simp)
  have hc : w.cell? ⟨b, k, none⟩ = c.cells[k]? := cell_of_row _ _ _ _ _ _ hg
  obtain ⟨old, ho2⟩ : ∃ old, c.cells[k]? = some old := ⟨_, Array.getElem?_eq_getElem (by rw [c.size]; exact hk)⟩
  rw [ho2] at hc
  have hf : w.frozen? ⟨b, k, none⟩ = false := frozen_of_row _ _ _ _ _ hg
  have hst : (store ⟨b, k, none⟩ v .plain).run Try.prog w = .ok () (w.setCell ⟨b, k, none⟩ v) := by
    rw [run_store Try.prog w _ _ _ (by rcases h1 with ⟨_, _, rfl⟩ | ⟨_, rfl⟩ <;> rfl), hc, hf]; rfl
  rw [← setCell_row hg hd]
  have hi := info_one ty hty
  cases hq : Try.prog.info? ty with
  | none => simp [hq] at hi
  | some i =>
    have hs : i.size = 1 := by simpa [hq] using hi
    have hadd : (⟨b, k, none⟩ : Addr).add 0 = ⟨b, k, none⟩ := by unfold Addr.add; split <;> simp_all
    rcases h1 with ⟨k1, n1, rfl⟩ | ⟨b1, rfl⟩
    · simp [storeVar, sizeOf, typeInfo, hq, hs, Value.cells, storeCells, hadd, hst]
    · simp [storeVar, sizeOf, typeInfo, hq, hs, Value.cells, storeCells, hadd, hst]
theorem wpList_lay {A : List (Nat × Cor)} {b : Nat} {c : Cor} (H : Own w0 (A ++ (b, c) :: L) w) (hgd : o.guard = none) (ty : TypeId) (x y : Operand) (ho : o.op = .store ty x y) (hty : ty = 22 ∨ ty = 3 ∨ ty = 4) (k : Nat) (hx : a.eval x = .pointer (some ⟨b, k, none⟩)) (v : Value) (hy : a.eval y = v) (d : Cor) (h1 : (∃ k n, v = .int k n) ∨ ∃ b, v = .bool b) (hk : k < 49) (hd : c.cells.setIfInBounds k v = d.cells)
    (h : ∀ w2, Own w0 (A ++ (b, d) :: L) w2 → wpList Try.prog ops Q rest (a.put o.dst undef) w2) : wpList Try.prog ops Q (o :: rest) a w := by
  refine wpList_plain hgd fun K hK => ?_
  unfold Oper.wp execOp
  simp only [ho, hx, hy, Instr.storeAt, Instr.sureAddr, Sem.run_bind, Sem.run_pure, Result.andThen_ok, run_lay H ty hty k v d h1 hk hd]
  exact hK _ _ (h _ (H.put d))
/-- The same within a region that draws. -/
theorem chn_lay {A : List (Nat × Cor)} {b : Nat} {c : Cor} (H : Own w0 (A ++ (b, c) :: L) w) (ty : TypeId) (x y : Operand) (ho : o.op = .store ty x y) (hty : ty = 22 ∨ ty = 3 ∨ ty = 4) (k : Nat) (hx : a.eval x = .pointer (some ⟨b, k, none⟩)) (v : Value) (hy : a.eval y = v) (d : Cor) (h1 : (∃ k n, v = .int k n) ∨ ∃ b, v = .bool b) (hk : k < 49) (hd : c.cells.setIfInBounds k v = d.cells)
    {C : World → Prop} (h : ∀ w2, Own w0 (A ++ (b, d) :: L) w2 → C w2) : Chn.upon Try.prog (fun v w' => v = undef ∧ C w') w ((execOp a.eval o).run Try.prog w) := by
  unfold execOp
  simp only [ho, hx, hy, Instr.storeAt, Instr.sureAddr, Sem.run_bind, Sem.run_pure, Result.andThen_ok, run_lay H ty hty k v d h1 hk hd]
  exact ⟨rfl, h _ (H.put d)⟩
theorem run_all {b : Nat} {c : Cor} (H : Own w0 L w) (hm : (b, c) ∈ L) : (loadVar 26 ⟨b, 0, none⟩).run Try.prog w = .ok c.val w := run_loadVar_row w b 26 26 c.cells (0, 0) _ (H.get hm) Try.underlying26 rfl c.info
theorem chn_all {b : Nat} {c : Cor} (H : Own w0 L w) (x : Operand) (ho : o.op = .load 26 x) (hx : a.eval x = .pointer (some ⟨b, 0, none⟩)) (hm : (b, c) ∈ L) {C : World → Prop} (hC : C w) :
    Chn.upon Try.prog (fun v w' => v = c.val ∧ C w') w ((execOp a.eval o).run Try.prog w) := by
  unfold execOp
  simp only [ho, hx, Instr.loadAt, Instr.sureAddr, Sem.run_bind, Sem.run_pure, Result.andThen_ok, run_all H hm]
  exact ⟨rfl, hC⟩
theorem rel_all {b : Nat} {c : Cor} (H : Own w0 L w) (x : Operand) (ho : o.op = .load 26 x) (hx : a.eval x = .pointer (some ⟨b, 0, none⟩)) (hm : (b, c) ∈ L) :
    Rel.relUpon Try.prog Rel.Grows (fun v _ => v = c.val) w ((execOp a.eval o).run Try.prog w) := by
  unfold execOp
  simp only [ho, hx, Instr.loadAt, Instr.sureAddr, Sem.run_bind, Sem.run_pure, Result.andThen_ok, run_all H hm]
  exact ⟨Below.refl _ _, rfl⟩
theorem wpList_layI0 {b : Nat} {c : Cor} (H : Own w0 ((b, c) :: L) w) (hgd : o.guard = none) (ty : TypeId) (x y : Operand) (ho : o.op = .store ty x y) (k : Nat) (hx : a.eval x = .pointer (some ⟨b, k, none⟩)) (hty : ty = 22 ∨ ty = 3 ∨ ty = 4) (q : IntKind) (n : Int) (hy : a.eval y = .int q n) (d : Cor) (hk : k < 49) (hd : c.cells.setIfInBounds k (.int q n) = d.cells)
    (h : ∀ w2, Own w0 ((b, d) :: L) w2 → wpList Try.prog ops Q rest (a.put o.dst undef) w2) : wpList Try.prog ops Q (o :: rest) a w := wpList_lay (A := []) H hgd ty x y ho hty k hx _ hy d (.inl ⟨_, _, rfl⟩) hk hd h
theorem wpList_layB0 {b : Nat} {c : Cor} (H : Own w0 ((b, c) :: L) w) (hgd : o.guard = none) (ty : TypeId) (x y : Operand) (ho : o.op = .store ty x y) (k : Nat) (hx : a.eval x = .pointer (some ⟨b, k, none⟩)) (hty : ty = 22 ∨ ty = 3 ∨ ty = 4) (u : Bool) (hy : a.eval y = .bool u) (d : Cor) (hk : k < 49) (hd : c.cells.setIfInBounds k (.bool u) = d.cells)
    (h : ∀ w2, Own w0 ((b, d) :: L) w2 → wpList Try.prog ops Q rest (a.put o.dst undef) w2) : wpList Try.prog ops Q (o :: rest) a w := wpList_lay (A := []) H hgd ty x y ho hty k hx _ hy d (.inr ⟨_, rfl⟩) hk hd h
theorem wpList_row0 {b : Nat} {c : Cor} (H : Own w0 ((b, c) :: L) w) (hgd : o.guard = none) (x y : Operand) (ho : o.op = .store 26 x y) (hx : a.eval x = .pointer (some ⟨b, 0, none⟩)) (d : Cor) (hy : a.eval y = .agg d.cells)
    (h : ∀ w2, Own w0 ((b, d) :: L) w2 → wpList Try.prog ops Q rest (a.put o.dst undef) w2) : wpList Try.prog ops Q (o :: rest) a w :=
  wpList_store_row hgd 26 x y ho _ _ hx hy 26 _ (H.get (b := b) (c := c) (by simp)) (Cor.info _) (by rw [c.size, d.size]) (Cor.one _) (h _ (H.put (A := []) d))
theorem wpList_layI1 {p1 : Nat × Cor} {b : Nat} {c : Cor} (H : Own w0 (p1 :: (b, c) :: L) w) (hgd : o.guard = none) (ty : TypeId) (x y : Operand) (ho : o.op = .store ty x y) (k : Nat) (hx : a.eval x = .pointer (some ⟨b, k, none⟩)) (hty : ty = 22 ∨ ty = 3 ∨ ty = 4) (q : IntKind) (n : Int) (hy : a.eval y = .int q n) (d : Cor) (hk : k < 49) (hd : c.cells.setIfInBounds k (.int q n) = d.cells)
    (h : ∀ w2, Own w0 (p1 :: (b, d) :: L) w2 → wpList Try.prog ops Q rest (a.put o.dst undef) w2) : wpList Try.prog ops Q (o :: rest) a w := wpList_lay (A := [p1]) H hgd ty x y ho hty k hx _ hy d (.inl ⟨_, _, rfl⟩) hk hd h
theorem wpList_layB1 {p1 : Nat × Cor} {b : Nat} {c : Cor} (H : Own w0 (p1 :: (b, c) :: L) w) (hgd : o.guard = none) (ty : TypeId) (x y : Operand) (ho : o.op = .store ty x y) (k : Nat) (hx : a.eval x = .pointer (some ⟨b, k, none⟩)) (hty : ty = 22 ∨ ty = 3 ∨ ty = 4) (u : Bool) (hy : a.eval y = .bool u) (d : Cor) (hk : k < 49) (hd : c.cells.setIfInBounds k (.bool u) = d.cells)
    (h : ∀ w2, Own w0 (p1 :: (b, d) :: L) w2 → wpList Try.prog ops Q rest (a.put o.dst undef) w2) : wpList Try.prog ops Q (o :: rest) a w := wpList_lay (A := [p1]) H hgd ty x y ho hty k hx _ hy d (.inr ⟨_, rfl⟩) hk hd h
theorem wpList_row1 {p1 : Nat × Cor} {b : Nat} {c : Cor} (H : Own w0 (p1 :: (b, c) :: L) w) (hgd : o.guard = none) (x y : Operand) (ho : o.op = .store 26 x y) (hx : a.eval x = .pointer (some ⟨b, 0, none⟩)) (d : Cor) (hy : a.eval y = .agg d.cells)
    (h : ∀ w2, Own w0 (p1 :: (b, d) :: L) w2 → wpList Try.prog ops Q rest (a.put o.dst undef) w2) : wpList Try.prog ops Q (o :: rest) a w :=
  wpList_store_row hgd 26 x y ho _ _ hx hy 26 _ (H.get (b := b) (c := c) (by simp)) (Cor.info _) (by rw [c.size, d.size]) (Cor.one _) (h _ (H.put (A := [p1]) d))
theorem wpList_layI2 {p1 p2 : Nat × Cor} {b : Nat} {c : Cor} (H : Own w0 (p1 :: p2 :: (b, c) :: L) w) (hgd : o.guard = none) (ty : TypeId) (x y : Operand) (ho : o.op = .store ty x y) (k : Nat) (hx : a.eval x = .pointer (some ⟨b, k, none⟩)) (hty : ty = 22 ∨ ty = 3 ∨ ty = 4) (q : IntKind) (n : Int) (hy : a.eval y = .int q n) (d : Cor) (hk : k < 49) (hd : c.cells.setIfInBounds k (.int q n) = d.cells)
    (h : ∀ w2, Own w0 (p1 :: p2 :: (b, d) :: L) w2 → wpList Try.prog ops Q rest (a.put o.dst undef) w2) : wpList Try.prog ops Q (o :: rest) a w := wpList_lay (A := [p1, p2]) H hgd ty x y ho hty k hx _ hy d (.inl ⟨_, _, rfl⟩) hk hd h
theorem wpList_layB2 {p1 p2 : Nat × Cor} {b : Nat} {c : Cor} (H : Own w0 (p1 :: p2 :: (b, c) :: L) w) (hgd : o.guard = none) (ty : TypeId) (x y : Operand) (ho : o.op = .store ty x y) (k : Nat) (hx : a.eval x = .pointer (some ⟨b, k, none⟩)) (hty : ty = 22 ∨ ty = 3 ∨ ty = 4) (u : Bool) (hy : a.eval y = .bool u) (d : Cor) (hk : k < 49) (hd : c.cells.setIfInBounds k (.bool u) = d.cells)
    (h : ∀ w2, Own w0 (p1 :: p2 :: (b, d) :: L) w2 → wpList Try.prog ops Q rest (a.put o.dst undef) w2) : wpList Try.prog ops Q (o :: rest) a w := wpList_lay (A := [p1, p2]) H hgd ty x y ho hty k hx _ hy d (.inr ⟨_, rfl⟩) hk hd h
theorem wpList_row2 {p1 p2 : Nat × Cor} {b : Nat} {c : Cor} (H : Own w0 (p1 :: p2 :: (b, c) :: L) w) (hgd : o.guard = none) (x y : Operand) (ho : o.op = .store 26 x y) (hx : a.eval x = .pointer (some ⟨b, 0, none⟩)) (d : Cor) (hy : a.eval y = .agg d.cells)
    (h : ∀ w2, Own w0 (p1 :: p2 :: (b, d) :: L) w2 → wpList Try.prog ops Q rest (a.put o.dst undef) w2) : wpList Try.prog ops Q (o :: rest) a w :=
  wpList_store_row hgd 26 x y ho _ _ hx hy 26 _ (H.get (b := b) (c := c) (by simp)) (Cor.info _) (by rw [c.size, d.size]) (Cor.one _) (h _ (H.put (A := [p1, p2]) d))
/-- A new variable of the call's own, behind the store of a state into it. -/
theorem wpList_new {Z : Array Value} (H : Own w0 L w) (hgd : o.guard = none) (x y : Operand) (ho : o.op = .store 26 x y)
    (d : Cor) (hx : a.eval x = .pointer (some ⟨w.heap.size, 0, none⟩)) (hy : a.eval y = .agg d.cells) (hZ : Z.size = 49)
    (h : ∀ w2, Own w0 ((w.heap.size, d) :: L) w2 → wpList Try.prog ops Q rest (a.put o.dst undef) w2) : wpList Try.prog ops Q (o :: rest) a (w.alloc (.cells Z 26)) :=
  wpList_store_row hgd 26 x y ho _ _ hx hy 26 _ (heap_alloc_new _ _) (Cor.info _) (hZ.trans d.size.symm) (Cor.one _) (h _ (H.add d Z))
theorem wpList_all {b : Nat} {c : Cor} (H : Own w0 L w) (hw : Region.wanted o (yielded ops a.tmps) = true) (x : Operand) (ho : o.op = .load 26 x) (hx : a.eval x = .pointer (some ⟨b, 0, none⟩)) (hm : (b, c) ∈ L)
    (h : wpList Try.prog ops Q rest (a.put o.dst c.val) w) : wpList Try.prog ops Q (o :: rest) a w :=
  wpList_load_if hw 26 x ho b hx 26 c.cells (0, 0) _ (H.get hm) Try.underlying26 rfl (Cor.info _) h
end
end Go.Proofs.Ytdlnmjlgfjlmkaa
