/- The pass as it lies. -/
import Derived.Test.YtilhjbhhgpoajaaDoorUa
import Derived.Test.YtilhjbhhgpoajaaDoorMf
import Derived.Test.YtilhjbhhgpoajaaDoorXj
namespace Go.Proofs.YtilhjbhhgpoajaaDoor
open Go.RowKit
set_option linter.unusedVariables false
set_option linter.unusedSimpArgs false
set_option maxRecDepth 8000

open Go.Maps
def SmallI (n : Int) : Prop := 0 ≤ n ∧ n < 1000
theorem laidOut : laidOutB Tryd.prog = true := by kernel_rfl
theorem rowR : (75 : TypeId) < Tryd.prog.types.size := of_decide_eq_true (by kernel_rfl)
theorem wideR : (match Tryd.prog.underlying 75 with | some (.array _ _) | some (.struct _) => true | _ => false) = true := by rw [Tryd.underlying75]
theorem lawR : Keyed Tryd.prog 75 := Keyed.of_law (deep_law_laid laidOut (m := 2) (by omega) rowR (by kernel_rfl) wideR)
theorem wfI {a : Int} (h : SmallI a) : (Lit.int .i64 a).wf = true := WalkArith.wf_i64 (by have := h.1; have := h.2; omega)
theorem keyR {a r : Int} (h : SmallI a) (hr : SmallI r) : ∃ kl, keyOf Tryd.prog 75 (.agg #[vI a, vI r]) = some kl := by
  have h1 := wfI h
  have h2 := wfI hr
  obtain ⟨m, hm⟩ : ∃ m, Tryd.prog.types.size = m + 1 := ⟨Tryd.prog.types.size - 1, by have : 75 < Tryd.prog.types.size := rowR; omega⟩
  have hk : Tryd.prog.keyType 75 = true := by kernel_rfl
  have hc : Tryd.prog.cellsOf 75 = 2 := by kernel_rfl
  have hc1 : Tryd.prog.cellsOf 3 = 1 := by kernel_rfl
  have hf : (Value.agg #[vI a, vI r]).formed Tryd.prog 75 = true := by simp [Value.formed, Tryd.underlying75, hc]
  unfold keyOf
  rw [Tryd.underlying75]
  simp only [hk, hf, Bool.and_self, if_true, hm]
  simp [Program.keyLits, Tryd.underlying75, Tryd.underlying3, hc, hc1, Value.cells, h1, h2]
theorem zeroI (w : World) : (zeroValue 3).run Tryd.prog w = .ok (vI 0) w := by kernel_rfl
/-- What is known of the registers, in a map of at most c entries. -/
def mapK (b c : Nat) (kn : Int → Int → Option Nat) (w : World) : Prop := ∃ f n, MapF Tryd.prog 75 b n f w ∧ n ≤ c ∧ ∀ a r : Int, SmallI a → SmallI r → f (.agg #[vI a, vI r]) = (kn a r).map (fun q : Nat => vI (q : Int))
section
variable {b c : Nat} {kn : Int → Int → Option Nat} {w w' : World}
theorem mapK.keep (h : mapK b c kn w) (hb : w'.heap[b]? = w.heap[b]?) : mapK b c kn w' := by obtain ⟨f, n, h1, h2, h3⟩ := h; exact ⟨f, n, h1.keep hb, h2, h3⟩
theorem mapK.mono (h : mapK b c kn w) {d : Nat} (hd : c ≤ d) : mapK b d kn w := by obtain ⟨f, n, h1, h2, h3⟩ := h; exact ⟨f, n, h1, Nat.le_trans h2 hd, h3⟩
theorem mapK.is (h : mapK b c kn w) : ∃ es q, w.heap[b]? = some (.map es q) := by obtain ⟨f, n, h1, h2⟩ := h; exact h1.isMap
theorem mapK.look (h : mapK b c kn w) {a r : Int} (ha : SmallI a) (hr : SmallI r) : (Instr.lookup 61 (.map (some b)) (.agg #[vI a, vI r]) true).run Tryd.prog w = .ok (match kn a r with | some q => .tuple #[vI (q : Int), .bool true] | none => .tuple #[vI 0, .bool false]) w := by
  obtain ⟨f, n, h1, h2, h3⟩ := h
  obtain ⟨kl, hk⟩ := keyR ha hr
  have := h1.look lawR Tryd.underlying61 (zeroI w) hk true
  rw [h3 a r ha hr] at this
  cases e : kn a r <;> (rw [e] at this; exact this)
theorem agg_ne {a r a' r' : Int} (h : ¬ (a' = a ∧ r' = r)) : (Value.agg #[vI a', vI r']) ≠ .agg #[vI a, vI r] := fun e => h (by simpa using e)
theorem mapK.put (h : mapK b c kn w) {a r : Int} (ha : SmallI a) (hr : SmallI r) (hc : c < 100000) (q : Nat) : ∃ w', (Instr.mapUpdate 61 (.map (some b)) (.agg #[vI a, vI r]) (vI (q : Int))).run Tryd.prog w = .ok () w' ∧ mapK b (c + 1) (fun x y => if x = a ∧ y = r then some q else kn x y) w' ∧ w.grownBy w' (some b) ∧ w'.heap.size = w.heap.size := by
  obtain ⟨f, n, h1, h2, h3⟩ := h
  obtain ⟨kl, hk⟩ := keyR ha hr
  obtain ⟨w2, q1, q2, q3, q4⟩ := h1.put lawR Tryd.underlying61 (by simp only [maxLen]; omega) hk (val := vI (q : Int))
  refine ⟨w2, q1, ⟨_, _, q2, by omega, fun x y hx hy => ?_⟩, q3, q4⟩
  by_cases e : x = a ∧ y = r
  · dsimp only; rw [if_pos e, e.1, e.2, putF_same]; rfl
  · dsimp only; rw [if_neg e, putF_other _ _ (agg_ne e)]; exact h3 x y hx hy
theorem mapK.del (h : mapK b c kn w) {a r : Int} (ha : SmallI a) (hr : SmallI r) (ty : TypeId) : ∃ w', (Builtin.delete_ #[61, 75] ty #[.map (some b), .agg #[vI a, vI r]]).run Tryd.prog w = .ok (.tuple #[]) w' ∧ mapK b c (fun x y => if x = a ∧ y = r then none else kn x y) w' ∧ w.grownBy w' (some b) ∧ w'.heap.size = w.heap.size := by
  obtain ⟨f, n, h1, h2, h3⟩ := h
  obtain ⟨kl, hk⟩ := keyR ha hr
  obtain ⟨w2, q1, q2, q3, q4⟩ := h1.del lawR Tryd.underlying61 (ty := ty) hk
  refine ⟨w2, q1, ⟨_, _, q2, by omega, fun x y hx hy => ?_⟩, q3, q4⟩
  by_cases e : x = a ∧ y = r
  · dsimp only; rw [if_pos e, e.1, e.2, delF_same]; rfl
  · dsimp only; rw [if_neg e, delF_other _ (agg_ne e)]; exact h3 x y hx hy
end
/-- Where a go's own things lie: its pass, the variable of what is laid, its map; all else of it from B on. -/
structure Fh where
  p : Nat
  v : Nat
  m : Nat
  B : Nat
def Fh.F (G : Fh) (u : Value) (k : Nat) : Prop := k = G.p ∨ k = G.v ∨ k = G.m ∨ u.ownBlock = some k
def passA (G : Fh) (S : Fo) : Array Value := #[.map (some G.m), .func (.func 26) #[] #[ptr G.v 0], .func (.func 27) #[] #[ptr G.v 0], .bool S.left]
structure FoAt (G : Fh) (c : Nat) (S : Fo) (u : Value) (w : World) : Prop where
  top : w.heap[G.p]? = some (.cells (passA G S) 65)
  var : w.heap[G.v]? = some (.cells #[u] 23)
  own : w.ownsRow G.B 37 6 u S.laid.length (opF S.laid)
  map : mapK G.m c S.known w
  hB : G.B ≤ w.heap.size
  hp : G.p < G.B
  hv : G.v < G.B
  hm : G.m < G.B
/-- What a call does to a go: its own blocks turned, no other. -/
structure FM (G : Fh) (c : Nat) (S : Fo) (u : Value) (w : World) (u' : Value) (w' : World) : Prop where
  at_ : FoAt G c S u' w'
  goes : Goes (G.F u) w w'
  lies : ∀ k, u'.ownBlock = some k → k < w.heap.size → u.ownBlock = some k
def FT (G : Fh) (c : Nat) (S : Fo) (u : Value) (w w' : World) : Prop := ∃ u', FM G c S u w u' w'
section
variable {G : Fh} {c : Nat} {S : Fo} {u : Value} {w w' : World}
theorem FoAt.keep (h : FoAt G c S u w) (hs : w.heap.size ≤ w'.heap.size) (hb : ∀ k, k < w.heap.size → w'.heap[k]? = w.heap[k]?) : FoAt G c S u w' :=
  ⟨(hb _ (lt_of_some h.top)).trans h.top, (hb _ (lt_of_some h.var)).trans h.var, own_of_block h.own (fun k hk => hb k (h.own.lt k hk).2), h.map.keep (hb _ (by obtain ⟨_, _, q⟩ := h.map.is; exact lt_of_some q)), Nat.le_trans h.hB hs, h.hp, h.hv, h.hm⟩
theorem FoAt.grow (h : FoAt G c S u w) (hb : Below w.heap.size w w') : FoAt G c S u w' := h.keep hb.size (fun k hk => hb.block k hk)
theorem FoAt.mono (h : FoAt G c S u w) {d : Nat} (hd : c ≤ d) : FoAt G d S u w := ⟨h.top, h.var, h.own, h.map.mono hd, h.hB, h.hp, h.hv, h.hm⟩
theorem FoAt.ltp (h : FoAt G c S u w) : G.p < w.heap.size := lt_of_some h.top
theorem FoAt.ltv (h : FoAt G c S u w) : G.v < w.heap.size := lt_of_some h.var
theorem FoAt.npv (h : FoAt G c S u w) : G.p ≠ G.v := ne_of_type h.top h.var (by decide)
theorem FoAt.nmp (h : FoAt G c S u w) : G.m ≠ G.p := fun e => by obtain ⟨_, _, q⟩ := h.map.is; rw [e, h.top] at q; cases q
theorem FoAt.nmv (h : FoAt G c S u w) : G.m ≠ G.v := fun e => by obtain ⟨_, _, q⟩ := h.map.is; rw [e, h.var] at q; cases q
theorem FoAt.ob (h : FoAt G c S u w) {k : Nat} (hk : u.ownBlock = some k) : G.B ≤ k ∧ k ≠ G.p ∧ k ≠ G.v ∧ k ≠ G.m := by
  have := (h.own.lt k hk).1
  have h1 := h.hp; have h2 := h.hv; have h3 := h.hm
  exact ⟨this, by omega, by omega, by omega⟩
theorem FoAt.cell (h : FoAt G c S u w) (j : Nat) : w.cell? ⟨G.p, j, none⟩ = (passA G S)[j]? := cell_of_row _ _ _ _ _ _ h.top
theorem FoAt.c0 (h : FoAt G c S u w) : w.cell? ⟨G.p, 0, none⟩ = some (.map (some G.m)) := h.cell 0
theorem FoAt.c1 (h : FoAt G c S u w) : w.cell? ⟨G.p, 1, none⟩ = some (.func (.func 26) #[] #[ptr G.v 0]) := h.cell 1
theorem FoAt.c2 (h : FoAt G c S u w) : w.cell? ⟨G.p, 2, none⟩ = some (.func (.func 27) #[] #[ptr G.v 0]) := h.cell 2
theorem FoAt.c3 (h : FoAt G c S u w) : w.cell? ⟨G.p, 3, none⟩ = some (.bool S.left) := h.cell 3
theorem FoAt.cv (h : FoAt G c S u w) : w.cell? ⟨G.v, 0, none⟩ = some u := by rw [cell_of_row _ _ _ _ _ _ h.var]; rfl
theorem FoAt.fp (h : FoAt G c S u w) (j : Nat) : w.frozen? ⟨G.p, j, none⟩ = false := frozen_of_row _ _ _ _ _ h.top
theorem FoAt.fv (h : FoAt G c S u w) (j : Nat) : w.frozen? ⟨G.v, j, none⟩ = false := frozen_of_row _ _ _ _ _ h.var
theorem FoAt.here (h : FoAt G c S u w) : FM G c S u w u w := ⟨h, Goes.refl _ _, fun _ e _ => e⟩
theorem FM.grow {u' : Value} (h : FM G c S u w u' w') {w2 : World} (hb : Below w'.heap.size w' w2) : FM G c S u w u' w2 := ⟨h.at_.grow hb, h.goes.grow hb, h.lies⟩
theorem FM.mono {u' : Value} (h : FM G c S u w u' w') {d : Nat} (hd : c ≤ d) : FM G d S u w u' w' := ⟨h.at_.mono hd, h.goes, h.lies⟩
theorem FM.then {d : Nat} {S' : Fo} {u1 u2 : Value} {w1 w2 : World} (h : FM G c S u w u1 w1) (k : FM G d S' u1 w1 u2 w2) : FM G d S' u w u2 w2 :=
  ⟨k.at_, h.goes.trans k.goes (fun j hj e => by
    rcases e with e | e | e | e
    · exact .inl e
    · exact .inr (.inl e)
    · exact .inr (.inr (.inl e))
    · exact .inr (.inr (.inr (h.lies j e hj)))), fun j e hj => h.lies j (k.lies j e (Nat.lt_of_lt_of_le hj h.goes.size)) hj⟩
theorem FM.from {u' : Value} {w1 : World} (hb : Below w.heap.size w w1) (k : FM G c S u w1 u' w') : FM G c S u w u' w' :=
  ⟨k.at_, (goes_of_below hb).trans k.goes (fun _ _ h => h), fun j e hj => k.lies j e (Nat.lt_of_lt_of_le hj hb.size)⟩
theorem FM.stays {u' : Value} (h : FM G c S u w u' w') (h0 : FoAt G c S u w) {b : Nat} {o : Obj} (hb : w.heap[b]? = some o) (n1 : b ≠ G.p) (n2 : b ≠ G.v) (n3 : b ≠ G.m) (n4 : u.ownBlock ≠ some b) : w'.heap[b]? = some o := by
  rw [h.goes.block b (lt_of_some hb) (fun e => by rcases e with e | e | e | e <;> contradiction)]; exact hb
/-- A variable of a call's own, made since: it is none of the go's blocks. -/
structure Apart (G : Fh) (u : Value) (b : Nat) : Prop where
  p : b ≠ G.p
  v : b ≠ G.v
  m : b ≠ G.m
  u : u.ownBlock ≠ some b
theorem FoAt.apart (h : FoAt G c S u w) {b : Nat} (hb : w.heap.size ≤ b) : Apart G u b := ⟨fun e => by have := h.ltp; omega, fun e => by have := h.ltv; omega, fun e => by obtain ⟨_, _, q⟩ := h.map.is; have := lt_of_some q; omega, fun e => by have := (h.own.lt b e).2; omega⟩
theorem FM.keeps {u' : Value} (h : FM G c S u w u' w') {b : Nat} {o : Obj} (a : Apart G u b) (hb : w.heap[b]? = some o) : w'.heap[b]? = some o := by
  rw [h.goes.block b (lt_of_some hb) (fun e => by
    rcases e with e | e | e | e
    · exact a.p e
    · exact a.v e
    · exact a.m e
    · exact a.u e)]; exact hb
theorem FM.apart {u' : Value} (h : FM G c S u w u' w') {b : Nat} (a : Apart G u b) (hb : b < w.heap.size) : Apart G u' b := ⟨a.p, a.v, a.m, fun e => a.u (h.lies b e hb)⟩
theorem FoAt.varx (h : FoAt G c S u w) {x : World} (hg : Goes (fun k => u.ownBlock = some k) w x) : x.heap[G.v]? = some (.cells #[u] 23) := by rw [hg.block _ h.ltv (fun e => (h.ob e).2.2.1 rfl)]; exact h.var
/-- One more operation laid: behind the append and the store. -/
theorem FoAt.puts (h : FoAt G c S u w) {o : Opr} {u' : Value} {x : World} (q1 : x.ownsRow G.B 37 6 u' (S.laid.length + 1) (opF (S.laid ++ [o]))) (hg : Goes (fun k => u.ownBlock = some k) w x) (hu : ∀ k, u'.ownBlock = some k → k < w.heap.size → u.ownBlock = some k) : FM G c (S.put o) u w u' (x.setCell ⟨G.v, 0, none⟩ u') := by
  have n1 := h.npv; have n2 := h.nmv
  have hvb : ∀ k, k < w.heap.size → k ≠ G.v → u.ownBlock ≠ some k → (x.setCell ⟨G.v, 0, none⟩ u').heap[k]? = w.heap[k]? := fun k hk h1 h2 => (Below.heap_setCell _ _ _ _ (by exact h1)).trans (hg.block k hk h2)
  have hvx : x.heap[G.v]? = some (.cells #[u] 23) := by rw [hg.block _ h.ltv (fun e => (h.ob e).2.2.1 rfl)]; exact h.var
  refine ⟨⟨?_, ?_, ?_, ?_, ?_, h.hp, h.hv, h.hm⟩, ?_, hu⟩
  · exact (hvb _ h.ltp n1 (fun e => (h.ob e).2.1 rfl)).trans h.top
  · rw [heap_setCell_same x G.v 0 _ 23 u' hvx]; rfl
  · have := own_of_block q1 (w' := x.setCell ⟨G.v, 0, none⟩ u') (fun k hk => Below.heap_setCell _ _ _ _ (by have := (q1.lt k hk).1; have := h.hv; show k ≠ G.v; omega))
    simpa [Fo.put] using this
  · exact h.map.keep (hvb _ (by obtain ⟨_, _, q⟩ := h.map.is; exact lt_of_some q) n2 (fun e => (h.ob e).2.2.2 rfl))
  · have := hg.size; have := h.hB; simp [World.setCell]; omega
  · exact (hg.mono (fun k _ hk => .inr (.inr (.inr hk)))).trans (goes_setCell x (.inr (.inl rfl)) 0 u') (fun _ _ e => e)
/-- The map turned. -/
theorem FoAt.turn (h : FoAt G c S u w) {d : Nat} {kn : Int → Int → Option Nat} (hk : mapK G.m d kn w') (hg : w.grownBy w' (some G.m)) : FM G d { S with known := kn } u w u w' := by
  have hb : ∀ k, k < w.heap.size → k ≠ G.m → w'.heap[k]? = w.heap[k]? := fun k hk hn => hg.block k hk (fun e => hn (Option.some.inj e))
  refine ⟨⟨(hb _ h.ltp (Ne.symm h.nmp)).trans h.top, (hb _ h.ltv (Ne.symm h.nmv)).trans h.var, own_of_block h.own (fun k e => hb k (h.own.lt k e).2 (h.ob e).2.2.2), hk, Nat.le_trans h.hB hg.size, h.hp, h.hv, h.hm⟩, goes_grown hg (fun k e => .inr (.inr (.inl (by cases e; rfl)))), fun _ e _ => e⟩
theorem FoAt.leaves (h : FoAt G c S u w) : FM G c S.leave u w u (w.setCell ⟨G.p, 3, none⟩ (.bool true)) := by
  have hb : ∀ k, k ≠ G.p → (w.setCell ⟨G.p, 3, none⟩ (.bool true)).heap[k]? = w.heap[k]? := fun k hn => Below.heap_setCell _ _ _ _ (by exact hn)
  refine ⟨⟨?_, (hb _ (Ne.symm h.npv)).trans h.var, own_of_block h.own (fun k e => hb k (h.ob e).2.1), h.map.keep (hb _ h.nmp), ?_, h.hp, h.hv, h.hm⟩, goes_setCell w (.inl rfl) 3 _, fun _ e _ => e⟩
  · rw [heap_setCell_same w G.p 3 _ 65 _ h.top]; rfl
  · have := h.hB; simpa [World.setCell] using this
end
end Go.Proofs.YtilhjbhhgpoajaaDoor
