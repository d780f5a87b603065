/- RelWays, plain: who is seen from one thing. -/
import Derived.Test.YtfgbhdcoemkdoaaDoorTe
namespace Go.Proofs.YtfgbhdcoemkdoaaDoor
open Go.RowKit
set_option linter.unusedVariables false
set_option linter.unusedSimpArgs false
set_option maxRecDepth 8000

open Rlw
/-- How many are not seen. -/
def un : Nat → (Nat → Bool) → Nat
  | 0, _ => 0
  | m + 1, sn => un m sn + if sn m then 0 else 1
def upB (sn : Nat → Bool) (b : Nat) : Nat → Bool := fun x => if x = b then true else sn x
theorem un_out {sn : Nat → Bool} {b : Nat} : ∀ m, m ≤ b → un m (upB sn b) = un m sn
  | 0, _ => rfl
  | m + 1, h => by
    have : upB sn b m = sn m := by unfold upB; rw [if_neg (by omega)]
    show un m (upB sn b) + (if upB sn b m then 0 else 1) = un m sn + (if sn m then 0 else 1)
    rw [un_out m (by omega), this]
theorem un_in {sn : Nat → Bool} {b : Nat} (hb : sn b = false) : ∀ m, b < m → un m (upB sn b) + 1 = un m sn
  | 0, h => by omega
  | m + 1, h => by
    show un m (upB sn b) + (if upB sn b m then 0 else 1) + 1 = un m sn + (if sn m then 0 else 1)
    by_cases e : b = m
    · subst e
      have : upB sn b b = true := by simp [upB]
      rw [un_out b (Nat.le_refl _), this, hb]; simp
    · have e1 : upB sn b m = sn m := by unfold upB; rw [if_neg (fun h => e h.symm)]
      have ih := un_in hb m (by omega)
      rw [e1]; omega
theorem un_le (sn : Nat → Bool) : ∀ m, un m sn ≤ m
  | 0 => Nat.le_refl _
  | m + 1 => by
    have := un_le sn m
    show un m sn + (if sn m then 0 else 1) ≤ m + 1
    split <;> omega
/-- The way so far: those to be looked at, those seen. -/
structure Wy (R : Nat → Nat → Bool) (m F : Nat) (td : List Nat) (sn : Nat → Bool) : Prop where
  lt : ∀ x ∈ td, x < m
  ok : ∀ x ∈ td, x = F ∨ sn x = true
  way : ∀ x, sn x = true → Rlw.Way (fun a b => R a b = true) F x
  cl : ∀ a, (a = F ∨ sn a = true) → a ∈ td ∨ ∀ b, R a b = true → sn b = true
/-- Within a round, of a. -/
structure Wz (R : Nat → Nat → Bool) (m F a k : Nat) (td : List Nat) (sn : Nat → Bool) : Prop where
  lt : ∀ x ∈ td, x < m
  ok : ∀ x ∈ td, x = F ∨ sn x = true
  way : ∀ x, sn x = true → Rlw.Way (fun a b => R a b = true) F x
  cl : ∀ c, (c = F ∨ sn c = true) → c ∈ td ∨ c = a ∨ ∀ b, R c b = true → sn b = true
  am : a < m
  aok : a = F ∨ sn a = true
  done : ∀ b, b < k → R a b = true → sn b = true
section
variable {R : Nat → Nat → Bool} {m F a k : Nat} {td : List Nat} {sn : Nat → Bool}
theorem Wy.start (hF : F < m) : Wy R m F [F] (fun _ => false) :=
  ⟨fun x h => by rw [List.mem_singleton.1 h]; exact hF, fun x h => .inl (List.mem_singleton.1 h), (fun x h => by cases h), fun a h => .inl (by
    rcases h with h | h
    · rw [h]; simp
    · cases h)⟩
theorem Wy.pop (h : Wy R m F td sn) {n : Nat} (hn : td.length = n + 1) (ha : td[n]? = some a) : Wz R m F a 0 (td.take n) sn := by
  have hmem : a ∈ td := List.mem_iff_getElem?.2 ⟨n, ha⟩
  refine ⟨fun x hx => h.lt x (List.mem_of_mem_take hx), fun x hx => h.ok x (List.mem_of_mem_take hx), h.way, fun c hc => ?_, h.lt a hmem, h.ok a hmem, fun b hb => by omega⟩
  rcases h.cl c hc with h1 | h1
  · obtain ⟨i, hi⟩ := List.mem_iff_getElem?.1 h1
    by_cases e : i = n
    · subst e
      rw [ha] at hi
      exact .inr (.inl (Option.some.inj hi).symm)
    · refine .inl (List.mem_iff_getElem?.2 ⟨i, ?_⟩)
      have := (List.getElem?_eq_some_iff.1 hi).1
      rw [List.getElem?_take_of_lt (by omega)]; exact hi
  · exact .inr (.inr h1)
theorem Wz.see (h : Wz R m F a k td sn) (hk : k < m) (hR : R a k = true) : Wz R m F a (k + 1) (td ++ [k]) (upB sn k) := by
  have hu : ∀ x, sn x = true → upB sn k x = true := fun x hx => by unfold upB; split <;> simp [hx]
  have hkk : upB sn k k = true := by simp [upB]
  refine ⟨fun x hx => ?_, fun x hx => ?_, fun x hx => ?_, fun c hc => ?_, h.am, h.aok.imp id (hu a), fun b hb hr => ?_⟩
  · rcases List.mem_append.1 hx with hx | hx
    · exact h.lt x hx
    · rw [List.mem_singleton.1 hx]; exact hk
  · rcases List.mem_append.1 hx with hx | hx
    · exact (h.ok x hx).imp id (hu x)
    · rw [List.mem_singleton.1 hx]; exact .inr hkk
  · by_cases e : x = k
    · subst e
      rcases h.aok with ha | ha
      · rw [← ha]; exact .one hR
      · exact (h.way a ha).trans (.one hR)
    · unfold upB at hx; rw [if_neg e] at hx
      exact h.way x hx
  · by_cases e : c = k
    · exact .inl (by rw [e]; simp)
    · have hc' : c = F ∨ sn c = true := hc.imp id (fun h2 => by unfold upB at h2; rwa [if_neg e] at h2)
      rcases h.cl c hc' with h1 | h1 | h1
      · exact .inl (List.mem_append.2 (.inl h1))
      · exact .inr (.inl h1)
      · exact .inr (.inr fun b hb => hu b (h1 b hb))
  · by_cases e : b = k
    · rw [e]; exact hkk
    · exact hu b (h.done b (by omega) hr)
theorem Wz.skip (h : Wz R m F a k td sn) (hk : R a k = true → sn k = true) : Wz R m F a (k + 1) td sn :=
  ⟨h.lt, h.ok, h.way, h.cl, h.am, h.aok, fun b hb hr => by
    by_cases e : b = k
    · rw [e] at hr ⊢; exact hk hr
    · exact h.done b (by omega) hr⟩
theorem Wz.all (h : Wz R m F a m td sn) (hf : Fits m R) : Wy R m F td sn :=
  ⟨h.lt, h.ok, h.way, fun c hc => by
    rcases h.cl c hc with h1 | h1 | h1
    · exact .inl h1
    · subst h1; exact .inr fun b hb => h.done b (hf c b hb).2 hb
    · exact .inr h1⟩
theorem Wy.seen (h : Wy R m F [] sn) (hf : Fits m R) (b : Nat) : sn b = war R m F b := by
  rw [Bool.eq_iff_iff, war_iff_way hf]
  constructor
  · exact h.way b
  · have key : ∀ {x y : Nat}, Rlw.Way (fun a b => R a b = true) x y → (x = F ∨ sn x = true) → sn y = true := fun {x y} hw => by
      induction hw with
      | one hr =>
        intro hx
        rcases h.cl _ hx with h1 | h1
        · cases h1
        · exact h1 _ hr
      | more hr _ ih =>
        intro hx
        rcases h.cl _ hx with h1 | h1
        · cases h1
        · exact ih (.inr (h1 _ hr))
    exact fun hw => key hw (.inl rfl)
end
theorem stC_low0 {W w1 : World} {j : Nat} (hC : StC W (fun _ => False) j w1) : Below W.heap.size W w1 := by
  match j, hC with
  | 0, hC => exact hC
  | 1, hC => exact False.elim hC
  | _ + 2, hC => exact False.elim hC
/-- Rows of truths. -/
abbrev flB (m : Nat) (sn : Nat → Bool) : List Value := (List.range m).map fun b => .bool (sn b)
theorem flB_get {m : Nat} {sn : Nat → Bool} {b : Nat} (h : b < m) : (flB m sn)[b]? = some (.bool (sn b)) := by simp [flB, h]
theorem flB_set {m : Nat} {sn : Nat → Bool} {b : Nat} (h : b < m) : (flB m sn).set b (.bool true) = flB m (upB sn b) := by
  apply List.ext_getElem?
  intro i
  rw [List.getElem?_set]
  by_cases e : b = i
  · subst e
    rw [if_pos rfl, if_pos (by simp [flB]; exact h), flB_get h]; simp [upB]
  · rw [if_neg e]
    by_cases hi : i < m
    · rw [flB_get hi, flB_get hi, upB, if_neg (fun h => e h.symm)]
    · rw [List.getElem?_eq_none (by simp [flB]; omega), List.getElem?_eq_none (by simp [flB]; omega)]
theorem infB : ∃ i, Tryd.prog.info? 4 = some i ∧ i.zero = some (.bool false) ∧ i.size = 1 ∧ i.bytes = 1 := by
  have h : (Tryd.prog.info? 4).map (fun i => (i.zero, i.size, i.bytes)) = some (some (.bool false), 1, 1) := by kernel_rfl
  cases hq : Tryd.prog.info? 4 with
  | none => rw [hq] at h; cases h
  | some i =>
    rw [hq] at h
    simp only [Option.map_some, Option.some.injEq, Prod.mk.injEq] at h
    exact ⟨i, rfl, h.1, h.2.1, h.2.2⟩
theorem made_one (z : Value) (hz : z.cells = #[z]) (m : Nat) : (madeCells z.cells (m * 1)).toList = (List.range m).map fun _ => z := by
  rw [hz]
  apply List.ext_getElem?
  intro i
  unfold madeCells
  by_cases h : i < m
  · simp [h, Nat.mod_one]
  · rw [List.getElem?_eq_none (by simp; omega), List.getElem?_eq_none (by simp; omega)]
theorem wpList_mkB {ops : Array Oper} {rest : List Oper} {o : Oper} {a : Act} {w : World} {Q : Exit → Act → World → Prop} (hg : o.guard = none) (x : Operand) (ho : o.op = .makeSlice 50 x x) (m : Nat) (hm : m ≤ 64) (hx : a.eval x = vI m) (base : Nat) (hb : base ≤ w.heap.size)
    (h : ∀ w', w'.ownsRow base 4 1 (.slice (some ⟨w.heap.size, 0, none⟩) m m) m (flB m fun _ => false) → Below w.heap.size w w' → wpList Tryd.prog ops Q rest (a.put o.dst (.slice (some ⟨w.heap.size, 0, none⟩) m m)) w') : wpList Tryd.prog ops Q (o :: rest) a w := by
  obtain ⟨i, h1, h2, h3, h4⟩ := infB
  refine wpList_make_full w hg x x 50 ho base 4 i (.bool false) 1 Tryd.underlying50 h1 h2 h3 .i64 .i64 m m m hx hx rfl rfl (by rw [h4]; omega) (by simp only [maxLen]; omega) hb fun w' hw hgr => h w' ?_ ?_
  · rw [made_one _ rfl] at hw; exact hw
  · exact (Below.refl _ w).grown hgr (Nat.le_refl _) fun k e => by cases e
theorem wpList_mkI {ops : Array Oper} {rest : List Oper} {o : Oper} {a : Act} {w : World} {Q : Exit → Act → World → Prop} (hg : o.guard = none) (x : Operand) (ho : o.op = .makeSlice 43 x x) (m : Nat) (hm : m ≤ 64) (hx : a.eval x = vI m) (base : Nat) (hb : base ≤ w.heap.size)
    (h : ∀ w', w'.ownsRow base 3 1 (.slice (some ⟨w.heap.size, 0, none⟩) m m) m ((List.range m).map fun _ => vI 0) → Below w.heap.size w w' → wpList Tryd.prog ops Q rest (a.put o.dst (.slice (some ⟨w.heap.size, 0, none⟩) m m)) w') : wpList Tryd.prog ops Q (o :: rest) a w := by
  obtain ⟨i, h1, h2, h3, h4⟩ := infI
  refine wpList_make_full w hg x x 43 ho base 3 i (vI 0) 1 Tryd.underlying43 h1 h2 h3 .i64 .i64 m m m hx hx rfl rfl (by rw [h4]; omega) (by simp only [maxLen]; omega) hb fun w' hw hgr => h w' ?_ ?_
  · rw [made_one _ rfl] at hw; exact hw
  · exact (Below.refl _ w).grown hgr (Nat.le_refl _) fun k e => by cases e
/-- What RelWays holds: the relation, those to be looked at, those seen. -/
structure WW (w : World) (r m gs cs : Nat) (R : Nat → Nat → Bool) (td : List Nat) (v : Value) (sn : Nat → Bool) (W : World) : Prop where
  rel : RelAt r m R W
  todo : W.ownsRow w.heap.size 3 1 v td.length (flN td)
  seen : W.ownsRow w.heap.size 4 1 (.slice (some ⟨gs, 0, none⟩) m cs) m (flB m sn)
  low : Below w.heap.size w W
section
variable {w W W' : World} {r m gs cs : Nat} {R : Nat → Nat → Bool} {td : List Nat} {v : Value} {sn : Nat → Bool}
theorem WW.grow (h : WW w r m gs cs R td v sn W) (hb : Below W.heap.size W W') : WW w r m gs cs R td v sn W' := ⟨h.rel.grow hb, own_grow h.todo hb, own_grow h.seen hb, h.low.trans (hb.mono h.low.size)⟩
theorem WW.cell (h : WW w r m gs cs R td v sn W) {b : Nat} (hb : b < m) : W.cell? ⟨gs, b, none⟩ = some (.bool (sn b)) ∧ W.frozen? ⟨gs, b, none⟩ = false :=
  ⟨by rw [h.seen.cellAt b (by omega), flB_get hb], h.seen.frozenAt _⟩
theorem WW.mark (h : WW w r m gs cs R td v sn W) {b : Nat} (hb : b < m) : WW w r m gs cs R td v (upB sn b) (W.setCell ⟨gs, b, none⟩ (.bool true)) := by
  have hs := (h.seen.stored b (.bool true)).1
  rw [flB_set hb] at hs
  obtain ⟨C, _, hC⟩ := own_kind h.seen (b := gs) rfl
  have kk : ∀ i, i ≠ gs → (W.setCell ⟨gs, b, none⟩ (.bool true)).heap[i]? = W.heap[i]? := fun i hi => Below.heap_setCell _ _ _ _ hi
  refine ⟨h.rel.keep (kk _ (ne_of_type h.rel.row hC (by decide))), own_of_block h.todo fun k hk => kk _ ?_, hs, h.low.setCell (p := ⟨gs, b, none⟩) (h.seen.lt gs rfl).1 _⟩
  obtain ⟨D, _, hD⟩ := own_kind h.todo hk
  exact ne_of_type hD hC (by decide)
theorem WW.app (h : WW w r m gs cs R td v sn W) {v' : Value} {td' : List Nat} (hg : W.grownBy W' v.ownBlock) (hown : W'.ownsRow w.heap.size 3 1 v' td'.length (flN td')) : WW w r m gs cs R td' v' sn W' := by
  have G : Goes (fun k => v.ownBlock = some k) W W' := goes_grown hg fun k hk => hk
  refine ⟨h.rel.keep (G.block _ h.rel.lt (own_ne h.rel.row h.todo (by decide))), hown, own_of_block h.seen fun k hk => G.block k (h.seen.lt k hk).2 fun e => ?_, h.low.trans (G.below h.low.size fun k hk => (h.todo.lt k hk).1)⟩
  obtain ⟨C, _, hC⟩ := own_kind h.seen hk
  exact own_ne hC h.todo (by decide) e
end
def WP (w : World) (r m F gs cs : Nat) (R : Nat → Nat → Bool) (k : Nat) (v : Value) (W : World) : Prop := ∃ td sn, WW w r m gs cs R td v sn W ∧ Wy R m F td sn ∧ k = 2 * un m sn + td.length ∧ k ≤ 2 * m + 1
theorem un_none : ∀ m, un m (fun _ => false) = m
  | 0 => rfl
  | m + 1 => by show un m (fun _ => false) + 1 = m + 1; rw [un_none m]
theorem has_in {r n : Nat} {R : Nat → Nat → Bool} {w : World} (H : RelAt r n R w) {a b : Nat} (ha : a < n) (hb : b < n) : Calls Tryd.prog 21 #[ptr r 0, vI a, vI b] w fun e w' => e = .returned (.bool (R a b)) ∧ w' = w := by
  have h := rhas_c H a b
  have e1 : inB n a = true := by simp [inB]; omega
  have e2 : inB n b = true := by simp [inB]; omega
  rw [e1, e2, Bool.true_and, Bool.true_and, Int.toNat_natCast, Int.toNat_natCast] at h
  exact h
end Go.Proofs.YtfgbhdcoemkdoaaDoor
