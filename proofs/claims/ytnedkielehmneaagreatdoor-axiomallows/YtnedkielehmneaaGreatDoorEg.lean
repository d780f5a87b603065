/- isFence, touchesNothing. -/
import Derived.Test.YtnedkielehmneaaGreatDoorEf
namespace Go.Proofs.YtnedkielehmneaaGreatDoor
open Go.RowKit
open Go.Shelf
set_option linter.unusedVariables false
set_option linter.unusedSimpArgs false
set_option maxRecDepth 8000

open Axm
/-- An event as a value. -/
abbrev evA (e : Ev) (s0 s1 s2 : Value) : Array Value := #[vI e.core, vI e.po, vI e.kind, vU e.addr, vU e.value, vI e.acq, .bool e.rel, .bool e.ex, vI e.fence, vI e.stamp, s0, s1, s2]
theorem isFence_c (f : Int) (w : World) : Calls Tryz.prog 66 #[vI f] w fun e w' => e = .returned (.bool (isFence f)) ∧ w' = w := by
  unfold isFence
  by_cases h1 : f = 13
  · subst h1
    go_enter Tryz.func66, Tryz.ntmps66
    go_wp2
    go_ret
    exact ⟨rfl, rfl⟩
  · by_cases h2 : f = 10
    · subst h2
      go_enter Tryz.func66, Tryz.ntmps66
      go_wp2
      go_ret
      exact ⟨rfl, rfl⟩
    · go_enter Tryz.func66, Tryz.ntmps66
      go_wp2
      go_ret
      exact ⟨rfl, rfl⟩
theorem nothing_c (e : Ev) {s0 s1 s2 : Value} (w : World) : Calls Tryz.prog 67 #[.agg (evA e s0 s1 s2)] w fun r w' => r = .returned (.bool (nothing e)) ∧ Below w.heap.size w w' := by
  unfold nothing
  by_cases h0 : e.addr = 0
  ·
    by_cases h1 : e.value = 0
    ·
      by_cases h2 : e.acq = 0
      ·
        cases h3 : e.rel with
        | true =>
          go_enter Tryz.func67, Tryz.ntmps67
          go_wp2
          go_ret
          exact ⟨by (simp_all <;> rfl), below_alloc _ _⟩
        | false =>
          cases h4 : e.ex with
          | true =>
            go_enter Tryz.func67, Tryz.ntmps67
            go_wp2
            go_ret
            exact ⟨by (simp_all <;> rfl), below_alloc _ _⟩
          | false =>
            go_enter Tryz.func67, Tryz.ntmps67
            go_wp2
            go_ret
            exact ⟨by (simp_all <;> rfl), below_alloc _ _⟩
      ·
        go_enter Tryz.func67, Tryz.ntmps67
        go_wp2
        go_ret
        exact ⟨by (simp_all <;> rfl), below_alloc _ _⟩
    ·
      go_enter Tryz.func67, Tryz.ntmps67
      go_wp2
      go_ret
      exact ⟨by (simp_all <;> rfl), below_alloc _ _⟩
  ·
    go_enter Tryz.func67, Tryz.ntmps67
    go_wp2
    go_ret
    exact ⟨by (simp_all <;> rfl), below_alloc _ _⟩

theorem RawI.one {w : World} {v : Value} {zs : List Int} (h : RawI w v zs) : v.oneCell' = true := by
  obtain ⟨_, _, rfl⟩ := h.len
  rfl
theorem evA_one {e : Ev} {s0 s1 s2 : Value} (h0 : s0.oneCell' = true) (h1 : s1.oneCell' = true) (h2 : s2.oneCell' = true) : (evA e s0 s1 s2).all (·.oneCell') = true := by
  simp only [evA, List.all_toArray, List.all_cons, List.all_nil, h0, h1, h2]; rfl
theorem EvAt.one {w : World} {p : Addr} {e : Ev} {s0 s1 s2 : Value} (A : EvAt w p e s0 s1 s2) : (evA e s0 s1 s2).all (·.oneCell') = true := evA_one A.r0.one A.r1.one A.r2.one
theorem EvAt.range {w : World} {p : Addr} {e : Ev} {s0 s1 s2 : Value} (A : EvAt w p e s0 s1 s2) (j : Nat) (v : Value) (hv : (evA e s0 s1 s2).toList[j]? = some v) : w.cell? (p.add j) = some v := by
  match j, hv with
  | 0, hv => cases hv; exact A.c0
  | 1, hv => cases hv; exact A.c1
  | 2, hv => cases hv; exact A.c2
  | 3, hv => cases hv; exact A.c3
  | 4, hv => cases hv; exact A.c4
  | 5, hv => cases hv; exact A.c5
  | 6, hv => cases hv; exact A.c6
  | 7, hv => cases hv; exact A.c7
  | 8, hv => cases hv; exact A.c8
  | 9, hv => cases hv; exact A.c9
  | 10, hv => cases hv; exact A.c10
  | 11, hv => cases hv; exact A.c11
  | 12, hv => cases hv; exact A.c12
  | j + 13, hv => simp [evA] at hv
theorem run_load36 {w : World} {p : Addr} {cs : List Value} (hl : cs.length = 13) (h : ∀ j v, cs[j]? = some v → w.cell? (p.add j) = some v) : (loadVar 36 p).run Tryz.prog w = .ok (.agg cs.toArray) w := by
  have h1 := run_loadCells_list (P := Tryz.prog) w p cs h
  have hi : (Tryz.prog.info? 36).map (·.size) = some 13 := by kernel_rfl
  have hagg : (isAgg 36).run Tryz.prog w = .ok true w := by
    unfold isAgg
    rw [Sem.run_bind, run_underlying Tryz.underlying36 w]
    rfl
  cases hq : Tryz.prog.info? 36 with
  | none => simp [hq] at hi
  | some i =>
    have hs : i.size = 13 := by simpa [hq] using hi
    rw [hl] at h1
    simp [loadVar, Sem.run_bind, hagg, sizeOf, typeInfo, hq, hs, h1]
theorem wpList_load36 {ops : Array Oper} {rest : List Oper} {o : Oper} {a : Act} {w : World} {Q : Exit → Act → World → Prop} (hg : o.guard = none) (x : Operand) (ho : o.op = .load 36 x) {p : Addr} {e : Ev} {s0 s1 s2 : Value} (hx : a.eval x = .pointer (some p)) (A : EvAt w p e s0 s1 s2)
    (h : wpList Tryz.prog ops Q rest (a.put o.dst (.agg (evA e s0 s1 s2))) w) : wpList Tryz.prog ops Q (o :: rest) a w :=
  wpList_plain hg fun _ hK => by
    unfold Oper.wp execOp
    have := run_load36 (cs := (evA e s0 s1 s2).toList) rfl A.range
    simp only [ho, hx, Instr.loadAt, Instr.sureAddr, Sem.run_bind, Sem.run_pure, Result.andThen_ok, this]
    exact hK _ _ h
theorem wpList_wanted {P : Program} {ops : Array Oper} {rest : List Oper} {o : Oper} {a : Act} {w : World} {Q : Exit → Act → World → Prop} (hw : Region.wanted o (yielded ops a.tmps) = true)
    (h : ∀ K : Act → World → Prop, (∀ a w, wpList P ops Q rest a w → K a w) → o.wp P a w K Q) : wpList P ops Q (o :: rest) a w :=
  wpList_step fun K hK => by rw [if_pos hw]; exact h K hK
/-- An event in a block of its own. -/
def LocE (t : Nat) (cs : Array Value) (w : World) : Prop := w.heap[t]? = some (.cells cs 36)
theorem LocE.lt {t : Nat} {cs : Array Value} {w : World} (h : LocE t cs w) : t < w.heap.size := lt_of_some h
theorem LocE.grow {t : Nat} {cs : Array Value} {w w' : World} (h : LocE t cs w) (hb : Below w.heap.size w w') : LocE t cs w' := by unfold LocE; rw [hb.block _ h.lt]; exact h
theorem LocE.cell {t : Nat} {cs : Array Value} {w : World} (h : LocE t cs w) (j : Nat) : w.cell? ⟨t, j, none⟩ = cs[j]? := by rw [cell_of_row _ _ _ _ _ _ h]
abbrev zE : Ev := ⟨0, 0, 0, 0, 0, 0, false, false, 0, 0, [], [], []⟩
abbrev zA : Array Value := evA zE (.slice none 0 0) (.slice none 0 0) (.slice none 0 0)
theorem wpList_new36 {ops : Array Oper} {rest : List Oper} {o : Oper} {a : Act} {w : World} {Q : Exit → Act → World → Prop} (hg : o.guard = none) (ho : o.op = .alloc 36)
    (h : ∀ w', LocE w.heap.size zA w' → Below w.heap.size w w' → w'.heap.size = w.heap.size + 1 → wpList Tryz.prog ops Q rest (a.put o.dst (ptr w.heap.size 0)) w') : wpList Tryz.prog ops Q (o :: rest) a w :=
  wpList_alloc hg 36 ho zA (by kernel_rfl) (h _ (World.alloc_heap_new w _) (below_alloc _ _) (World.size_alloc _ _))
theorem wpList_store36 {ops : Array Oper} {rest : List Oper} {o : Oper} {a : Act} {w : World} {Q : Exit → Act → World → Prop} (hg : o.guard = none) (x y : Operand) (ho : o.op = .store 36 x y) {q : Nat} {cs : Array Value} (hx : a.eval x = ptr q 0) (H : LocE q cs w) (hs : cs.size = 13) {e : Ev} {s0 s1 s2 : Value} (hy : a.eval y = .agg (evA e s0 s1 s2)) (h1 : (evA e s0 s1 s2).all (·.oneCell') = true)
    (h : ∀ w', LocE q (evA e s0 s1 s2) w' → Goes (fun k => k = q) w w' → w'.heap.size = w.heap.size → wpList Tryz.prog ops Q rest (a.put o.dst undef) w') : wpList Tryz.prog ops Q (o :: rest) a w :=
  wpList_store_row hg 36 x y ho q _ hx hy 36 _ H (by show _ = some 13; kernel_rfl) (by rw [hs]; rfl) h1 (h _ (setRow_heap _ _ _ _ _ _ H) (goes_setRow w (F := fun k => k = q) rfl _) (by simp))
theorem wpList_loadL {ops : Array Oper} {rest : List Oper} {o : Oper} {a : Act} {w : World} {Q : Exit → Act → World → Prop} (hg : o.guard = none) (x : Operand) (ho : o.op = .load 36 x) {t : Nat} {e : Ev} {s0 s1 s2 : Value} (hx : a.eval x = .pointer (some ⟨t, 0, none⟩)) (H : LocE t (evA e s0 s1 s2) w)
    (h : wpList Tryz.prog ops Q rest (a.put o.dst (.agg (evA e s0 s1 s2))) w) : wpList Tryz.prog ops Q (o :: rest) a w :=
  wpList_load_mid hg 36 x ho t 0 hx (evA e s0 s1 s2).toList _ (fun j v hv => by
    rw [Nat.zero_add, H.cell]; simpa using hv) Tryz.underlying36 rfl (by show _ = some 13; kernel_rfl) h
theorem wpList_loadLg {ops : Array Oper} {rest : List Oper} {o : Oper} {a : Act} {w : World} {Q : Exit → Act → World → Prop} (x : Operand) (ho : o.op = .load 36 x) (hw : Region.wanted o (yielded ops a.tmps) = true) {t : Nat} {e : Ev} {s0 s1 s2 : Value} (hx : a.eval x = .pointer (some ⟨t, 0, none⟩)) (H : LocE t (evA e s0 s1 s2) w)
    (h : wpList Tryz.prog ops Q rest (a.put o.dst (.agg (evA e s0 s1 s2))) w) : wpList Tryz.prog ops Q (o :: rest) a w :=
  wpList_wanted hw fun _ hK => wp_load_mid 36 x ho t 0 hx (evA e s0 s1 s2).toList _ (fun j v hv => by
    rw [Nat.zero_add, H.cell]; simpa using hv) Tryz.underlying36 rfl (by show _ = some 13; kernel_rfl) (hK _ _ h)
end Go.Proofs.YtnedkielehmneaaGreatDoor
