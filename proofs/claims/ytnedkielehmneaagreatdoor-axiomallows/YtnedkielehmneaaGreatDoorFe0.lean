/- Deeds in memory; what stands behind so many. -/
import Derived.Test.YtnedkielehmneaaGreatDoorFd
import Derived.Test.YtnedkielehmneaaGreatDoorFc0
import Derived.Test.YtnedkielehmneaaGreatDoorPq
namespace Go.Proofs.YtnedkielehmneaaGreatDoor
open Go.RowKit
open Go.Shelf
set_option linter.unusedVariables false
set_option linter.unusedSimpArgs false
set_option maxRecDepth 8000

open Axm
/-- A deed, plain; in memory. -/
structure Dd where
  kind : Int
  core : Int
  wher : Int
  ordr : Int
  value : Int
  ex : Bool
  d0 : List Int
  d1 : List Int
  d2 : List Int
deriving Inhabited
abbrev ddA (d : Dd) (s0 s1 s2 : Value) : Array Value := #[vI d.kind, vI d.core, vI d.wher, vI d.ordr, vU d.value, .bool d.ex, s0, s1, s2]
structure DdAt (w : World) (p : Addr) (d : Dd) (s0 s1 s2 : Value) : Prop where
  lt : p.block < w.heap.size
  range : ∀ (j : Nat) v, (ddA d s0 s1 s2).toList[j]? = some v → w.cell? (p.add j) = some v
  r0 : RawI w s0 d.d0
  r1 : RawI w s1 d.d1
  r2 : RawI w s2 d.d2
  k : I64 d.kind
  c : I64 d.core
  p : I64 d.wher
  o : I64 d.ordr
  i0 : ∀ r ∈ d.d0, I64 r
  i1 : ∀ r ∈ d.d1, I64 r
  i2 : ∀ r ∈ d.d2, I64 r
theorem DdAt.grow {w w' : World} {p : Addr} {d : Dd} {s0 s1 s2 : Value} (h : DdAt w p d s0 s1 s2) (hb : Below w.heap.size w w') : DdAt w' p d s0 s1 s2 :=
  ⟨Nat.lt_of_lt_of_le h.lt hb.size, fun j v hv => by rw [hb.cell (p := p.add j) (by rw [add_block]; exact h.lt)]; exact h.range j v hv, h.r0.grow hb, h.r1.grow hb, h.r2.grow hb, h.k, h.c, h.p, h.o, h.i0, h.i1, h.i2⟩
structure Deeds (w : World) (v : Value) (n : Nat) (x : Nat → Dd) : Prop where
  len : ∃ ao cap, v = .slice ao n cap
  max : n ≤ maxLen
  cell : 0 < n → ∃ (ra : Addr) (cap : Nat), v = .slice (some ra) n cap ∧ ∀ i, i < n → ∃ s0 s1 s2, DdAt w (ra.add (i * 9)) (x i) s0 s1 s2
theorem Deeds.grow {w w' : World} {v : Value} {n : Nat} {x : Nat → Dd} (h : Deeds w v n x) (hb : Below w.heap.size w w') : Deeds w' v n x :=
  ⟨h.len, h.max, fun h0 => by
    obtain ⟨ra, cap, e, hc⟩ := h.cell h0
    exact ⟨ra, cap, e, fun i hi => by obtain ⟨s0, s1, s2, hh⟩ := hc i hi; exact ⟨s0, s1, s2, hh.grow hb⟩⟩⟩
theorem run_load84 {w : World} {p : Addr} {cs : List Value} (hl : cs.length = 9) (h : ∀ j v, cs[j]? = some v → w.cell? (p.add j) = some v) : (loadVar 84 p).run Tryz.prog w = .ok (.agg cs.toArray) w := by
  have h1 := run_loadCells_list (P := Tryz.prog) w p cs h
  have hi : (Tryz.prog.info? 84).map (·.size) = some 9 := by kernel_rfl
  have hagg : (isAgg 84).run Tryz.prog w = .ok true w := by
    unfold isAgg
    rw [Sem.run_bind, run_underlying Tryz.underlying84 w]
    rfl
  cases hq : Tryz.prog.info? 84 with
  | none => simp [hq] at hi
  | some i =>
    have hs : i.size = 9 := by simpa [hq] using hi
    rw [hl] at h1
    simp [loadVar, Sem.run_bind, hagg, sizeOf, typeInfo, hq, hs, h1]
theorem wpList_load84 {ops : Array Oper} {rest : List Oper} {o : Oper} {a : Act} {w : World} {Q : Exit → Act → World → Prop} (hg : o.guard = none) (x : Operand) (ho : o.op = .load 84 x) {p : Addr} {d : Dd} {s0 s1 s2 : Value} (hx : a.eval x = .pointer (some p)) (A : DdAt w p d s0 s1 s2)
    (h : wpList Tryz.prog ops Q rest (a.put o.dst (.agg (ddA d s0 s1 s2))) w) : wpList Tryz.prog ops Q (o :: rest) a w :=
  wpList_plain hg fun _ hK => by
    unfold Oper.wp execOp
    have := run_load84 (cs := (ddA d s0 s1 s2).toList) rfl A.range
    simp only [ho, hx, Instr.loadAt, Instr.sureAddr, Sem.run_bind, Sem.run_pure, Result.andThen_ok, this]
    exact hK _ _ h
/-- A block of any type. -/
def LocT (ty : TypeId) (t : Nat) (cs : Array Value) (w : World) : Prop := w.heap[t]? = some (.cells cs ty)
section
variable {ty : TypeId} {t : Nat} {cs : Array Value} {w w' : World}
theorem LocT.lt (h : LocT ty t cs w) : t < w.heap.size := lt_of_some h
theorem LocT.grow (h : LocT ty t cs w) (hb : Below w.heap.size w w') : LocT ty t cs w' := by unfold LocT; rw [hb.block _ h.lt]; exact h
theorem LocT.goes {F : Nat → Prop} (h : LocT ty t cs w) (g : Goes F w w') (hF : ¬ F t) : LocT ty t cs w' := by unfold LocT; rw [g.block _ h.lt hF]; exact h
theorem LocT.cell (h : LocT ty t cs w) (j : Nat) : w.cell? ⟨t, j, none⟩ = cs[j]? := by rw [cell_of_row _ _ _ _ _ _ h]
end
theorem wpList_cellT {ops : Array Oper} {rest : List Oper} {o : Oper} {a : Act} {w : World} {Q : Exit → Act → World → Prop} (hg : o.guard = none) (ty : TypeId) (x y : Operand) (ho : o.op = .store ty x y) {tt : TypeId} {t j : Nat} {cs : Array Value} (hx : a.eval x = .pointer (some ⟨t, j, none⟩)) (H : LocT tt t cs w) (v : Value) (hy : a.eval y = v) (hi : (Tryz.prog.info? ty).map (·.size) = some 1) (hv : v.oneCell' = true) (hv2 : v.cells = #[v]) (hj : j < cs.size)
    (h : ∀ w', LocT tt t (cs.setIfInBounds j v) w' → Goes (fun k => k = t) w w' → wpList Tryz.prog ops Q rest (a.put o.dst undef) w') : wpList Tryz.prog ops Q (o :: rest) a w :=
  wpList_plain hg fun _ hK => by
    have hc : w.cell? ⟨t, j, none⟩ = some cs[j] := by rw [H.cell, Array.getElem?_eq_getElem hj]
    have hr := run_cell w ty t j v _ hi hv hv2 hc (frozen_of_row _ _ _ _ _ H)
    unfold Oper.wp execOp
    simp only [ho, hx, hy, Instr.storeAt, Instr.sureAddr, Sem.run_bind, Sem.run_pure, Result.andThen_ok, hr]
    refine hK _ _ (h _ ?_ (goes_setCell w (F := fun k => k = t) rfl _ _))
    unfold LocT
    rw [heap_setCell_same w t j _ tt v H]
abbrev zD : Array Value := #[vI 0, vI 0, vI 0, vI 0, vU 0, .bool false, nilS, nilS, nilS]
theorem wpList_new84 {ops : Array Oper} {rest : List Oper} {o : Oper} {a : Act} {w : World} {Q : Exit → Act → World → Prop} (hg : o.guard = none) (ho : o.op = .alloc 84)
    (h : ∀ w', LocT 84 w.heap.size zD w' → Below w.heap.size w w' → w'.heap.size = w.heap.size + 1 → wpList Tryz.prog ops Q rest (a.put o.dst (ptr w.heap.size 0)) w') : wpList Tryz.prog ops Q (o :: rest) a w :=
  wpList_alloc hg 84 ho zD (by kernel_rfl) (h _ (World.alloc_heap_new w _) (below_alloc _ _) (World.size_alloc _ _))
theorem wpList_store84 {ops : Array Oper} {rest : List Oper} {o : Oper} {a : Act} {w : World} {Q : Exit → Act → World → Prop} (hg : o.guard = none) (x y : Operand) (ho : o.op = .store 84 x y) {q : Nat} (hx : a.eval x = ptr q 0) (H : LocT 84 q zD w) {d : Dd} {s0 s1 s2 : Value} (hy : a.eval y = .agg (ddA d s0 s1 s2)) (h1 : (ddA d s0 s1 s2).all (·.oneCell') = true)
    (h : ∀ w', LocT 84 q (ddA d s0 s1 s2) w' → Goes (fun k => k = q) w w' → w'.heap.size = w.heap.size → wpList Tryz.prog ops Q rest (a.put o.dst undef) w') : wpList Tryz.prog ops Q (o :: rest) a w :=
  wpList_store_row hg 84 x y ho q _ hx hy 84 _ H (by show _ = some 9; kernel_rfl) rfl h1 (h _ (setRow_heap _ _ _ _ _ _ H) (goes_setRow w (F := fun k => k = q) rfl _) (by simp))
theorem DdAt.one {w : World} {p : Addr} {d : Dd} {s0 s1 s2 : Value} (A : DdAt w p d s0 s1 s2) : (ddA d s0 s1 s2).all (·.oneCell') = true := by
  simp only [ddA, List.all_toArray, List.all_cons, List.all_nil, A.r0.one, A.r1.one, A.r2.one]; rfl
/-- The four stamps and values. -/
abbrev stA (st : Nat → Nat) : Array Value := #[vI (st 0 : Nat), vI (st 1 : Nat), vI (st 2 : Nat), vI (st 3 : Nat)]
abbrev vaA (va : Nat → Int) : Array Value := #[vU (va 0), vU (va 1), vU (va 2), vU (va 3)]
theorem stA_get (st : Nat → Nat) {k : Nat} (h : k < 4) : (stA st)[k]? = some (vI (st k : Nat)) := by
  match k, h with
  | 0, _ => rfl
  | 1, _ => rfl
  | 2, _ => rfl
  | 3, _ => rfl
theorem vaA_get (va : Nat → Int) {k : Nat} (h : k < 4) : (vaA va)[k]? = some (vU (va k)) := by
  match k, h with
  | 0, _ => rfl
  | 1, _ => rfl
  | 2, _ => rfl
  | 3, _ => rfl
theorem stA_set (st : Nat → Nat) {k : Nat} (h : k < 4) (v : Nat) : (stA st).setIfInBounds k (vI (v : Nat)) = stA (setN st k v) := by
  match k, h with
  | 0, _ => rfl
  | 1, _ => rfl
  | 2, _ => rfl
  | 3, _ => rfl
theorem vaA_set (va : Nat → Int) {k : Nat} (h : k < 4) (v : Int) : (vaA va).setIfInBounds k (vU v) = vaA (setN va k v) := by
  match k, h with
  | 0, _ => rfl
  | 1, _ => rfl
  | 2, _ => rfl
  | 3, _ => rfl
/-- Lists whose own lists lie in blocks of numbers. -/
structure DepB (w : World) (es : List EvX) : Prop where
  all : ∀ t ∈ es, (RawI w t.s0 t.e.adr ∧ RawI w t.s1 t.e.dat ∧ RawI w t.s2 t.e.ctl) ∧ IntB w t.s0 ∧ IntB w t.s1 ∧ IntB w t.s2
theorem DepB.deps {w : World} {es : List EvX} (h : DepB w es) : Deps w es := ⟨fun t ht => (h.all t ht).1⟩
theorem DepB.grow {w w' : World} {es : List EvX} (h : DepB w es) (hb : Below w.heap.size w w') : DepB w' es := ⟨fun t ht => by
  obtain ⟨⟨h1, h2, h3⟩, h4, h5, h6⟩ := h.all t ht
  exact ⟨⟨h1.grow hb, h2.grow hb, h3.grow hb⟩, h4.grow hb, h5.grow hb, h6.grow hb⟩⟩
theorem DepB.goes {w w' : World} {es : List EvX} (h : DepB w es) {F : Nat → Prop} (G : Goes F w w') (hF : ∀ k, F k → ∃ c t f, w.heap[k]? = some (.cells c t f) ∧ t ≠ 3) : DepB w' es := ⟨fun t ht => by
  obtain ⟨⟨h1, h2, h3⟩, h4, h5, h6⟩ := h.all t ht
  have n4 : ∀ k, F k → t.s0.ownBlock ≠ some k := fun k hk => by obtain ⟨c, ty, f, e, hne⟩ := hF k hk; exact h4.ne e hne
  have n5 : ∀ k, F k → t.s1.ownBlock ≠ some k := fun k hk => by obtain ⟨c, ty, f, e, hne⟩ := hF k hk; exact h5.ne e hne
  have n6 : ∀ k, F k → t.s2.ownBlock ≠ some k := fun k hk => by obtain ⟨c, ty, f, e, hne⟩ := hF k hk; exact h6.ne e hne
  exact ⟨⟨h1.goes G n4, h2.goes G n5, h3.goes G n6⟩, h4.goes G n4, h5.goes G n5, h6.goes G n6⟩⟩
/-- What stands behind so many deeds. -/
structure PI (w : World) (sb vb j m : Nat) (es : List EvX) (st : Nat → Nat) (va : Nat → Int) (v : Value) (W : World) : Prop where
  row : W.ownsRow w.heap.size 36 13 v j (evF es)
  len : es.length = j
  dep : DepB W es
  sa : LocT 80 sb (stA st) W
  vl : LocT 81 vb (vaA va) W
  k : Kept j (xs es) m st va
  low : Below w.heap.size w W
  hs : w.heap.size ≤ sb
  hv : w.heap.size ≤ vb
  ne : sb ≠ vb
theorem own_type {w : World} {base n : Nat} {v : Value} {xs : List Value} (h : w.ownsRow base 36 13 v n xs) {k : Nat} (hk : v.ownBlock = some k) : ∃ c f, w.heap[k]? = some (.cells c 36 f) := by
  rcases h.2 with ⟨h1, _⟩ | ⟨g, cap, cur, h1, _, h3, _⟩
  · rw [h1] at hk; cases hk
  · rw [h1] at hk; cases hk; exact ⟨cur, _, h3⟩
theorem PI.grow {w : World} {sb vb j m : Nat} {es : List EvX} {st : Nat → Nat} {va : Nat → Int} {v : Value} {W W' : World} (h : PI w sb vb j m es st va v W) (hb : Below W.heap.size W W') : PI w sb vb j m es st va v W' :=
  ⟨own_of_block h.row fun k hk => hb.block k (h.row.lt k hk).2, h.len, h.dep.grow hb, h.sa.grow hb, h.vl.grow hb, h.k, h.low.trans (hb.mono h.low.size), h.hs, h.hv, h.ne⟩
theorem PI.evs {w : World} {sb vb j m : Nat} {es : List EvX} {st : Nat → Nat} {va : Nat → Int} {v : Value} {W : World} (h : PI w sb vb j m es st va v W) : Evs W v j (xs es) := by
  have L : EvO W w.heap.size v es := ⟨by rw [h.len]; exact h.row, h.dep.deps⟩
  have := L.evs
  rw [h.len] at this
  exact this
theorem xs_snoc {es : List EvX} {t : EvX} {j : Nat} (h : es.length = j) : (∀ a, a < j → xs (es ++ [t]) a = xs es a) ∧ xs (es ++ [t]) j = t.e := by
  subst h
  constructor
  · intro a ha
    simp [xs, List.getElem?_append_left ha]
  · simp [xs]
end Go.Proofs.YtnedkielehmneaaGreatDoor
